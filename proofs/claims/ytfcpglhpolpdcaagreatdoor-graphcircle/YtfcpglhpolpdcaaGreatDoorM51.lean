/- GraphCircle answers true whatever the module,the picks and the quantum. No condition but the form's own reach;the package-level variables that the road reads hold what the program's text lays into them. -/
import Derived.Test.YtfcpglhpolpdcaaGreatDoorCards
import Derived.Test.YtfcpglhpolpdcaaGreatDoorTie
import Derived.Test.YtfcpglhpolpdcaaGreatDoorM49
import Derived.Test.YtfcpglhpolpdcaaGreatDoorM50
import Derived.WalkKit
import Derived.ProofKit
import Derived.OpenShut
import Derived.ReadAgain
import Derived.ChangeBears
import Derived.ChangeOld
import Derived.SizedLaws
import Derived.SevenTiedAt
import Derived.Deep.DeepHandedRow
set_option maxRecDepth 100000
set_option maxHeartbeats 2000000
namespace Go.Proofs.YtfcpglhpolpdcaaGreatDoor
namespace graphCircle
open Go.ChangeShapes Go.WideShapes Go.ChangeAt Go.RowKit
theorem own:ownKnob Tryz.prog.godebug=none:=by kernel_rfl
theorem kids:Kids Tryz.prog (·<Tryz.prog.types.size):=kids_rows (by kernel_rfl) (by kernel_rfl)
theorem full:∀ t e,t<Tryz.prog.types.size→Tryz.prog.underlying t=some (.slice e)→0<Tryz.prog.cellsOf e:=slices_full_of Tryz.prog (by kernel_rfl)
theorem again {H:Type}{enc:TypeId × Value→H}{W W':World}{sp:Nat→Bool}(hb:Below W.heap.size W W'):∀ {ts:List TypeId} {vs:List Value} {ds:List (DataW H)} {ps:List MemPlace},DataW.TrodAll enc Tryz.prog W 0 sp true ts vs ds ps→(∀ p ∈ ps,p.block<W.heap.size)→DataW.TrodAll enc Tryz.prog W' 0 sp true ts vs ds ps
 | [],[],[],_,h,_=>h
 | _ :: _,_ :: _,_ :: _,_,⟨p,q,⟨n,h1⟩,h2,e⟩,hs=>⟨p,q,⟨n,DataW.trod_carry n _ _ _ h1 (fun x hx=>hb.same (hs x (by rw[e];exact List.mem_append_left _ hx)))⟩,again hb h2 (fun x hx=>hs x (by rw[e];exact List.mem_append_right _ hx)),e⟩
theorem agy:Rows.graphCircleRow.laid=Xe.yN:=rfl
theorem contract (H:Type)(enc:TypeId × Value→H)(W:World)(base:Nat)(args:Array Value)(ds gs:List (DataW H))(before:List MemPlace)
  (hval:∀ (j:Nat) t v,Tryz.f4.params[j]?=some t→args[j]?=some v→Value.okWide Tryz.prog W .any base t v)
  (hW:DataW.Whole enc Tryz.prog Tryz.f4.params.toList Rows.graphCircleSpec.vars false W args.toList ds gs before) (hL:laidMetH Tryz.prog Rows.graphCircleRow.laid W) :
  Calls Tryz.prog 4 args W fun e W'=>∃ v,e=.returned v∧Rows.graphCircleSpec.post enc Tryz.prog Tryz.f4 false true false false W args v W':=by
 have hW':=hW;have hlt:=hW.lt;rw[agy] at hL;have hT:=Xe.agc hL;obtain⟨p,q,hA0,hV,rfl,hfz,hnd⟩:=hW;have hA:DataW.TrodAll enc Tryz.prog W 0 (fun _=>true) true Tryz.f4.params.toList args.toList ds p:=hA0;have hAk:=hA;rw[Tryz.params4] at hA hval;obtain⟨v0,vs0,d0,ds0,p0,q0,hargs,rfl,rfl,h0,r0⟩:=trodAll_cons hA;obtain⟨v1,vs1,d1,ds1,p1,q1,rfl,rfl,rfl,h1,r1⟩:=trodAll_cons r0;obtain⟨v2,vs2,d2,ds2,p2,q2,rfl,rfl,rfl,h2,r2⟩:=trodAll_cons r1;obtain⟨rfl,rfl,rfl⟩:=trodAll_nil r2;obtain rfl:args=#[v0,v1,v2]:=Array.toList_inj.1 hargs;obtain⟨rfl,rfl⟩:=trodVars_none hV;obtain⟨cs0,rfl,_⟩:=okWide_struct Tryz.underlying25 (hval 0 25 v0 rfl rfl);obtain⟨a1,ahP,Va,rfl⟩:=okWide_slice Tryz.underlying26 (hval 1 26 v1 rfl rfl);obtain⟨n2,rfl⟩:=okWide_int Tryz.underlying3 (hval 2 3 v2 rfl rfl);obtain⟨f0,hf0⟩:=h0;obtain⟨m,ab,cb,au,cu,hcs,hin⟩:=agu hf0;simp[Value.cells] at hcs;obtain rfl:cs0=#[.slice ab m.boxes.length cb,.slice au m.units.length cu]:=Array.toList_inj.1 (by simpa using hcs);obtain⟨f1,hf1⟩:=h1;obtain⟨Vb,ahQ,ahR,Vd,ahS,ahT,agA⟩:=Vw.agx hf1;simp[Value.cells] at Vd;obtain⟨rfl,rfl,rfl⟩:=Vd;obtain⟨f2,hf2⟩:=h2;obtain⟨in2,hin2,Ve⟩:=nH hf2;simp[Value.cells] at Ve;subst Ve;simp only[List.append_nil] at hW';refine (Vw.afZ m ab au cb cu Vb a1 Va W hT hin agA n2).mono fun e W' ⟨he,Vg⟩=>?_;subst he;have agB:DataW.TrodAll enc Tryz.prog W 0 (fun b=>decide (b<W.heap.size)) true Tryz.f4.params.toList #[Value.agg #[.slice ab m.boxes.length cb,.slice au m.units.length cu],.slice a1 Vb.length Va,.int .i64 n2].toList [d0,d1,d2] (p0++(p1++(p2++[]))):=DataW.TrodAll.respare kids full (by rw[Tryz.params4];decide) hAk (fun x hx=>by simpa using hlt x (by simpa using hx));exact⟨_,rfl,_,_,_,[],_,[],hW',(trodAll_cons_mk (shut_bool Tryz.underlying4 _) trodAll_mk0),again Vg agB (fun x hx=>hlt x (by simpa using hx)),rfl,Vg.frame _,fun h=>by cases h⟩
theorem reads (os:Os){H:Type}(enc:TypeId × Value→H):∃ places,DataW.whole enc Tryz.prog ((Xe.Ll os).forCall (fun _ _=>0) ⟨#[],#[.agg #[.slice none 0 0,.slice none 0 0],.slice none 0 0,.int .i64 0],[]⟩).memory Tryz.f4.params.toList Rows.graphCircleSpec.vars false #[Value.agg #[.slice none 0 0,.slice none 0 0],.slice none 0 0,.int .i64 0].toList 8=some ([.agg [.nil,.nil],.nil,.lit (.int .i64 0)],[],places) :=
 ⟨[],by kernel_rfl⟩
theorem lifted (os:Os)(started:os.Started)(H:Type)(enc:TypeId × Value→H)(F:Stop.Interp) :
  ReturnsInHanded {} Tryz.checked os 4 .any ((OpenSpec.ofChange Rows.graphCircleSpec).preRow enc Tryz.prog Tryz.f4 Rows.graphCircleRow.domain false Rows.graphCircleRow.laid) (((OpenSpec.ofChange Rows.graphCircleSpec).at F).post enc Tryz.prog Tryz.f4 false true false false):=by
 obtain⟨places,hx⟩:=reads os enc;refine returnsInHanded_of_row (C:=Tryz.checked) (s:=OpenSpec.ofChange Rows.graphCircleSpec) own started (by kernel_rfl) Tryz.func4
  (witness_row_at (enc:=enc) (C:=Tryz.checked) false (Xe.Ll os) #[.agg #[.slice none 0 0,.slice none 0 0],.slice none 0 0,.int .i64 0] rfl (by kernel_rfl) (by kernel_rfl) (by kernel_rfl)
   (OpenSpec.preRow_of_cond 8 hx (by kernel_rfl) (fun k hk=>by cases hk) (by kernel_rfl) (Xe.agd os _))) ?_
 intro W base args ds gs before hval hW _ _ _ hL _ _;exact contract H enc W base args ds gs before hval hW hL
theorem said:Rows.GraphCircleSaid :=
 OpenClaim.holds_of_cond 4 Tryz.f4 rfl rfl rfl rfl rfl rfl rfl ⟨rfl,rfl,rfl,rfl,rfl⟩ rfl rfl rfl rfl rfl (by kernel_rfl) Tryz.func4 (by kernel_rfl)
  (of_decide_eq_true (by kernel_rfl)) (by unfold Func.isWrapper;first | (rw[if_pos (by decide +kernel)];kernel_rfl) | (rw[if_neg (by decide +kernel)];exact⟨rfl,rfl⟩))
  (fun os started H enc _ F=>by rw[OpenClaim.pre_eq_preRow];exact lifted os started H enc F)
theorem plain (f:FuncId)(fn:Func)(hf:Tryz.pinned.checked.prog.funcNamed "yieldshape/yieldlaw15.GraphCircle" = some f)(hfn:Tryz.pinned.checked.prog.funcs[f]?=some fn) :
  true=Tryz.pinned.checked.prog.looks []∧∀ (j:Nat) t,fn.params[j]?=some t→Tryz.pinned.checked.prog.wantsStandIn t=false:=by
 obtain rfl:f=4:=Option.some.inj ((show Tryz.prog.funcNamed "yieldshape/yieldlaw15.GraphCircle" = some 4 by kernel_rfl).symm.trans hf) |>.symm
 obtain rfl:fn=Tryz.f4:=(Option.some.inj (Tryz.func4.symm.trans hfn)).symm;refine⟨by kernel_rfl,fun j t ht=>?_⟩;rw[Tryz.params4] at ht;have hm:=Array.mem_of_getElem? ht;simp at hm;rcases hm with rfl | rfl | rfl
 ·exact (show Tryz.prog.wantsStandIn 25=false by kernel_rfl)
 ·exact (show Tryz.prog.wantsStandIn 26=false by kernel_rfl)
 ·exact (show Tryz.prog.wantsStandIn 3=false by kernel_rfl)
end graphCircle
theorem graphCircle_card:Rows.GraphCircleCardSaid :=
 Claim7.holds_tied_plain_at .later [] _ _ _ _ graphCircle.said (fun _ h=>by cases h) (by kernel_rfl) (fun _ h=>by cases h) graphCircle_row_tie rfl ⟨rfl,rfl⟩ (by kernel_rfl) rfl graphCircle.plain (by kernel_rfl)
#print axioms graphCircle_card
end Go.Proofs.YtfcpglhpolpdcaaGreatDoor
