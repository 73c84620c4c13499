/- GraphEnds answers true whatever the module,the picks,the quantum and the task. No condition but the form's own reach;the package-level variables that the road reads hold what the program's text lays into them. -/
import Derived.Test.YtfcpglhpolpdcaaGreatDoorCards
import Derived.Test.YtfcpglhpolpdcaaGreatDoorTie
import Derived.Test.YtfcpglhpolpdcaaGreatDoorM50
import Derived.Test.YtfcpglhpolpdcaaGreatDoorM51
import Derived.WalkKit
import Derived.ProofKit
import Derived.OpenShut
import Derived.ReadAgain
import Derived.ChangeBears
import Derived.ChangeOld
import Derived.SizedLaws
import Derived.SevenTiedAt
import Derived.Deep.DeepHandedRow
set_option maxRecDepth 100000
set_option maxHeartbeats 2000000
namespace Go.Proofs.YtfcpglhpolpdcaaGreatDoor
namespace graphEnds
open Go.ChangeShapes Go.WideShapes Go.ChangeAt Go.RowKit
theorem own:ownKnob Tryz.prog.godebug=none:=by kernel_rfl
theorem kids:Kids Tryz.prog (·<Tryz.prog.types.size):=kids_rows (by kernel_rfl) (by kernel_rfl)
theorem full:∀ t e,t<Tryz.prog.types.size→Tryz.prog.underlying t=some (.slice e)→0<Tryz.prog.cellsOf e:=slices_full_of Tryz.prog (by kernel_rfl)
theorem again {H:Type}{enc:TypeId × Value→H}{W W':World}{sp:Nat→Bool}(hb:Below W.heap.size W W'):∀ {ts:List TypeId} {vs:List Value} {ds:List (DataW H)} {ps:List MemPlace},DataW.TrodAll enc Tryz.prog W 0 sp true ts vs ds ps→(∀ p ∈ ps,p.block<W.heap.size)→DataW.TrodAll enc Tryz.prog W' 0 sp true ts vs ds ps
 | [],[],[],_,h,_=>h
 | _ :: _,_ :: _,_ :: _,_,⟨p,q,⟨n,h1⟩,h2,e⟩,hs=>⟨p,q,⟨n,DataW.trod_carry n _ _ _ h1 (fun x hx=>hb.same (hs x (by rw[e];exact List.mem_append_left _ hx)))⟩,again hb h2 (fun x hx=>hs x (by rw[e];exact List.mem_append_right _ hx)),e⟩
theorem ag9:Rows.graphEndsRow.laid=Xe.zi:=rfl
theorem contract (H:Type)(enc:TypeId × Value→H)(W:World)(base:Nat)(args:Array Value)(ds gs:List (DataW H))(before:List MemPlace)
  (hval:∀ (j:Nat) t v,Tryz.f3.params[j]?=some t→args[j]?=some v→Value.okWide Tryz.prog W .any base t v)
  (hW:DataW.Whole enc Tryz.prog Tryz.f3.params.toList Rows.graphEndsSpec.vars false W args.toList ds gs before) (hL:laidMetH Tryz.prog Rows.graphEndsRow.laid W) :
  Calls Tryz.prog 3 args W fun e W'=>∃ v,e=.returned v∧Rows.graphEndsSpec.post enc Tryz.prog Tryz.f3 false true false false W args v W':=by
 have hW':=hW;have hlt:=hW.lt;rw[ag9] at hL;have hT:=Xe.agP hL;obtain⟨p,q,hA0,hV,rfl,hfz,hnd⟩:=hW;have hA:DataW.TrodAll enc Tryz.prog W 0 (fun _=>true) true Tryz.f3.params.toList args.toList ds p:=hA0;have hAk:=hA;rw[Tryz.params3] at hA hval;obtain⟨v0,vs0,d0,ds0,p0,q0,hargs,rfl,rfl,h0,r0⟩:=trodAll_cons hA;obtain⟨v1,vs1,d1,ds1,p1,q1,rfl,rfl,rfl,h1,r1⟩:=trodAll_cons r0;obtain⟨v2,vs2,d2,ds2,p2,q2,rfl,rfl,rfl,h2,r2⟩:=trodAll_cons r1;obtain⟨v3,vs3,d3,ds3,p3,q3,rfl,rfl,rfl,h3,r3⟩:=trodAll_cons r2;obtain⟨rfl,rfl,rfl⟩:=trodAll_nil r3;obtain rfl:args=#[v0,v1,v2,v3]:=Array.toList_inj.1 hargs;obtain⟨rfl,rfl⟩:=trodVars_none hV;obtain⟨cs0,rfl,_⟩:=okWide_struct Tryz.underlying25 (hval 0 25 v0 rfl rfl);obtain⟨a1,ais,VE,rfl⟩:=okWide_slice Tryz.underlying26 (hval 1 26 v1 rfl rfl);obtain⟨n2,rfl⟩:=okWide_int Tryz.underlying3 (hval 2 3 v2 rfl rfl);obtain⟨n3,rfl⟩:=okWide_int Tryz.underlying3 (hval 3 3 v3 rfl rfl);obtain⟨f0,hf0⟩:=h0;obtain⟨m,ab,cb,au,cu,hcs,hin⟩:=ag5 hf0;simp[Value.cells] at hcs;obtain rfl:cs0=#[.slice ab m.boxes.length cb,.slice au m.units.length cu]:=Array.toList_inj.1 (by simpa using hcs);obtain⟨f1,hf1⟩:=h1;obtain⟨VF,ait,aiu,VG,aiv,aiw,ahb⟩:=Vw.ag8 hf1;simp[Value.cells] at VG;obtain⟨rfl,rfl,rfl⟩:=VG;obtain⟨f2,hf2⟩:=h2;obtain⟨in2,hin2,VH⟩:=mO hf2;simp[Value.cells] at VH;subst VH;obtain⟨f3,hf3⟩:=h3;obtain⟨in3,aiz,VI⟩:=mO hf3;simp[Value.cells] at VI;subst VI;simp only[List.append_nil] at hW';refine (Vw.agB m ab au cb cu VF a1 VE W hT hin ahb n2 n3).mono fun e W' ⟨he,VJ⟩=>?_;subst he;have ahc:DataW.TrodAll enc Tryz.prog W 0 (fun b=>decide (b<W.heap.size)) true Tryz.f3.params.toList #[Value.agg #[.slice ab m.boxes.length cb,.slice au m.units.length cu],.slice a1 VF.length VE,.int .i64 n2,.int .i64 n3].toList [d0,d1,d2,d3] (p0++(p1++(p2++(p3++[])))):=DataW.TrodAll.respare kids full (by rw[Tryz.params3];decide) hAk (fun x hx=>by simpa using hlt x (by simpa using hx));exact⟨_,rfl,_,_,_,[],_,[],hW',(trodAll_cons_mk (shut_bool Tryz.underlying4 _) trodAll_mk0),again VJ ahc (fun x hx=>hlt x (by simpa using hx)),rfl,VJ.frame _,fun h=>by cases h⟩
theorem reads (os:Os){H:Type}(enc:TypeId × Value→H):∃ places,DataW.whole enc Tryz.prog ((Xe.LU os).forCall (fun _ _=>0) ⟨#[],#[.agg #[.slice none 0 0,.slice none 0 0],.slice none 0 0,.int .i64 0,.int .i64 0],[]⟩).memory Tryz.f3.params.toList Rows.graphEndsSpec.vars false #[Value.agg #[.slice none 0 0,.slice none 0 0],.slice none 0 0,.int .i64 0,.int .i64 0].toList 8=some ([.agg [.nil,.nil],.nil,.lit (.int .i64 0),.lit (.int .i64 0)],[],places) :=
 ⟨[],by kernel_rfl⟩
theorem lifted (os:Os)(started:os.Started)(H:Type)(enc:TypeId × Value→H)(F:Stop.Interp) :
  ReturnsInHanded {} Tryz.checked os 3 .any ((OpenSpec.ofChange Rows.graphEndsSpec).preRow enc Tryz.prog Tryz.f3 Rows.graphEndsRow.domain false Rows.graphEndsRow.laid) (((OpenSpec.ofChange Rows.graphEndsSpec).at F).post enc Tryz.prog Tryz.f3 false true false false):=by
 obtain⟨places,hx⟩:=reads os enc;refine returnsInHanded_of_row (C:=Tryz.checked) (s:=OpenSpec.ofChange Rows.graphEndsSpec) own started (by kernel_rfl) Tryz.func3
  (witness_row_at (enc:=enc) (C:=Tryz.checked) false (Xe.LU os) #[.agg #[.slice none 0 0,.slice none 0 0],.slice none 0 0,.int .i64 0,.int .i64 0] rfl (by kernel_rfl) (by kernel_rfl) (by kernel_rfl)
   (OpenSpec.preRow_of_cond 8 hx (by kernel_rfl) (fun k hk=>by cases hk) (by kernel_rfl) (Xe.agQ os _))) ?_
 intro W base args ds gs before hval hW _ _ _ hL _ _;exact contract H enc W base args ds gs before hval hW hL
theorem said:Rows.GraphEndsSaid :=
 OpenClaim.holds_of_cond 3 Tryz.f3 rfl rfl rfl rfl rfl rfl rfl ⟨rfl,rfl,rfl,rfl,rfl⟩ rfl rfl rfl rfl rfl (by kernel_rfl) Tryz.func3 (by kernel_rfl)
  (of_decide_eq_true (by kernel_rfl)) (by unfold Func.isWrapper;first | (rw[if_pos (by decide +kernel)];kernel_rfl) | (rw[if_neg (by decide +kernel)];exact⟨rfl,rfl⟩))
  (fun os started H enc _ F=>by rw[OpenClaim.pre_eq_preRow];exact lifted os started H enc F)
theorem plain (f:FuncId)(fn:Func)(hf:Tryz.pinned.checked.prog.funcNamed "yieldshape/yieldlaw15.GraphEnds" = some f)(hfn:Tryz.pinned.checked.prog.funcs[f]?=some fn) :
  true=Tryz.pinned.checked.prog.looks []∧∀ (j:Nat) t,fn.params[j]?=some t→Tryz.pinned.checked.prog.wantsStandIn t=false:=by
 obtain rfl:f=3:=Option.some.inj ((show Tryz.prog.funcNamed "yieldshape/yieldlaw15.GraphEnds" = some 3 by kernel_rfl).symm.trans hf) |>.symm
 obtain rfl:fn=Tryz.f3:=(Option.some.inj (Tryz.func3.symm.trans hfn)).symm;refine⟨by kernel_rfl,fun j t ht=>?_⟩;rw[Tryz.params3] at ht;have hm:=Array.mem_of_getElem? ht;simp at hm;rcases hm with rfl | rfl | rfl
 ·exact (show Tryz.prog.wantsStandIn 25=false by kernel_rfl)
 ·exact (show Tryz.prog.wantsStandIn 26=false by kernel_rfl)
 ·exact (show Tryz.prog.wantsStandIn 3=false by kernel_rfl)
end graphEnds
theorem graphEnds_card:Rows.GraphEndsCardSaid :=
 Claim7.holds_tied_plain_at .later [] _ _ _ _ graphEnds.said (fun _ h=>by cases h) (by kernel_rfl) (fun _ h=>by cases h) graphEnds_row_tie rfl ⟨rfl,rfl⟩ (by kernel_rfl) rfl graphEnds.plain (by kernel_rfl)
#print axioms graphEnds_card
end Go.Proofs.YtfcpglhpolpdcaaGreatDoor
