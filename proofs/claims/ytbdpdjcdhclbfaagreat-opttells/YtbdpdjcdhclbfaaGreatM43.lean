/- OptTells answers true whatever the module: its shorter code is what the document's rules make of it. No condition. -/
import Derived.Test.YtbdpdjcdhclbfaaGreatRows
import Derived.Test.YtbdpdjcdhclbfaaGreatM42
import Derived.Test.YtbdpdjcdhclbfaaGreatM22
import Derived.WalkKit
import Derived.ProofKit
import Derived.OpenShut
import Derived.ReadAgain
import Derived.ChangeBears
import Derived.ChangeOld
import Derived.SizedLaws
set_option maxRecDepth 100000
set_option maxHeartbeats 1000000
namespace Go.Proofs.YtbdpdjcdhclbfaaGreat
namespace optTells
open Go.ChangeShapes Go.WideShapes Go.ChangeAt Go.RowKit
theorem own:ownKnob Tryz.prog.godebug=none:=by kernel_rfl
theorem kids:Kids Tryz.prog (·<Tryz.prog.types.size):=kids_rows (by kernel_rfl) (by kernel_rfl)
theorem full:∀ t e,t<Tryz.prog.types.size→Tryz.prog.underlying t=some (.slice e)→0<Tryz.prog.cellsOf e:=slices_full_of Tryz.prog (by kernel_rfl)
theorem again {H:Type}{enc:TypeId × Value→H}{W W':World}{sp:Nat→Bool}(hb:Below W.heap.size W W'):∀ {ts:List TypeId} {vs:List Value} {ds:List (DataW H)} {ps:List MemPlace},DataW.TrodAll enc Tryz.prog W 0 sp true ts vs ds ps→(∀ p ∈ ps,p.block<W.heap.size)→DataW.TrodAll enc Tryz.prog W' 0 sp true ts vs ds ps
 | [],[],[],_,h,_=>h
 | _ :: _,_ :: _,_ :: _,_,⟨p,q,⟨n,h1⟩,h2,e⟩,hs=>⟨p,q,⟨n,DataW.trod_carry n _ _ _ h1 (fun x hx=>hb.same (hs x (by rw[e];exact List.mem_append_left _ hx)))⟩,again hb h2 (fun x hx=>hs x (by rw[e];exact List.mem_append_right _ hx)),e⟩
theorem lifted (os:Os)(started:os.Started)(H:Type)(enc:TypeId × Value→H) :
  ReturnsInHanded {} Tryz.checked os 3 .any (Rows.optTellsSpec.pre6 enc Tryz.prog Tryz.f3 Rows.optTellsRow.domain false) (Rows.optTellsSpec.post enc Tryz.prog Tryz.f3 false true false false):=by
 refine returnsInHanded_of_change_sized (C:=Tryz.checked) own started (by kernel_rfl) Tryz.func3
  (ChangeSpec.witness6 (enc:=enc) (C:=Tryz.checked) false ⟨#[],#[.agg #[.slice none 0 0,.slice none 0 0]],[]⟩ 8 (by kernel_rfl) (by kernel_rfl) (by kernel_rfl) (by kernel_rfl)) ?_
 intro W base args ds gs before hval0 hW hcnd _ _;have hval:∀ (j:Nat) t v,Tryz.f3.params[j]?=some t→args[j]?=some v→Value.okWide Tryz.prog W .any base t v:=hval0;have hW':=hW;have hlt:=hW.lt;obtain⟨p,q,hA0,hV,rfl,hfz,hnd⟩:=hW;have hA:DataW.TrodAll enc Tryz.prog W 0 (fun _=>true) true Tryz.f3.params.toList args.toList ds p:=hA0;have hAk:=hA;rw[Tryz.params3] at hA hval;obtain⟨v0,vs0,d0,ds0,p0,q0,hargs,rfl,rfl,h0,r0⟩:=trodAll_cons hA;obtain⟨rfl,rfl,rfl⟩:=trodAll_nil r0;obtain rfl:args=#[v0]:=Array.toList_inj.1 hargs;obtain⟨rfl,rfl⟩:=trodVars_none hV;obtain⟨cs0,rfl,_⟩:=okWide_struct Tryz.underlying25 (hval 0 25 v0 rfl rfl);obtain⟨f0,hf0⟩:=h0;obtain⟨m,ab,cb,au,cu,hcs,hin⟩:=aaJ hf0;simp[Value.cells] at hcs;obtain rfl:cs0=#[.slice ab m.boxes.length cb,.slice au m.units.length cu]:=Array.toList_inj.1 (by simpa using hcs);simp only[List.append_nil] at hW';refine (Ow.adw m ab au cb cu W hin).mono fun e W' ⟨he,Ve⟩=>?_;subst he;have adB:DataW.TrodAll enc Tryz.prog W 0 (fun b=>decide (b<W.heap.size)) true Tryz.f3.params.toList #[Value.agg #[.slice ab m.boxes.length cb,.slice au m.units.length cu]].toList [d0] (p0++[]):=DataW.TrodAll.respare kids full (by rw[Tryz.params3];decide) hAk (fun x hx=>by simpa using hlt x (by simpa using hx));exact⟨_,rfl,_,_,_,[],_,[],hW',(trodAll_cons_mk (shut_bool Tryz.underlying4 _) trodAll_mk0),again Ve adB (fun x hx=>hlt x (by simpa using hx)),rfl,Ve.frame _,fun h=>by cases h⟩
theorem over:Rows.optTellsRow.holds Tryz.pinned (OpenSpec.ofChange Rows.optTellsSpec) :=
 OpenClaim.holds_of_wide 3 Tryz.f3 rfl rfl rfl rfl rfl rfl rfl ⟨rfl,rfl,rfl,rfl,rfl⟩ rfl rfl rfl rfl rfl (by kernel_rfl) Tryz.func3 (by kernel_rfl)
  (of_decide_eq_true (by kernel_rfl)) (by unfold Func.isWrapper;first | (rw[if_pos (by decide +kernel)];kernel_rfl) | (rw[if_neg (by decide +kernel)];exact⟨rfl,rfl⟩))
  (fun os started H enc _=>lifted os started H enc)
end optTells
theorem optTells_holds:Rows.OptTellsSaid:=optTells.over
#print axioms optTells_holds
end Go.Proofs.YtbdpdjcdhclbfaaGreat
