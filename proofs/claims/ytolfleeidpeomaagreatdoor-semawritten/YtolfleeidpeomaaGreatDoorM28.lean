/- Programs in memory,with more memory above them. -/
import Derived.Test.YtolfleeidpeomaaGreatDoorM3
import Derived.Test.YtolfleeidpeomaaGreatDoorM27
import Derived.Test.YtolfleeidpeomaaGreatDoorM20
import Derived.Deep.RegionHeld3
import Derived.Test.YtolfleeidpeomaaGreatDoorM21
import Derived.Test.YtolfleeidpeomaaGreatDoorM22
import Derived.Test.YtolfleeidpeomaaGreatDoorM23
set_option maxRecDepth 100000
set_option maxHeartbeats 4000000
namespace Go.Proofs.YtolfleeidpeomaaGreatDoor
open Go.RowKit
theorem aJ.wide {B B':Nat}{w:World}(hB:B≤B'):∀ {h:Nat} {x:Sy.Ex} {a:Option Addr},aJ B w h x a→aJ B' w h x a
 | 0,_,_,hx=>hx.elim
 | h+1,_,_,hx=>⟨hx.1,hx.2.1,fun i k hk=>by
  obtain ⟨b,off,a',c',e,hb,c0,c1,c2,c3,hin⟩:=hx.2.2 i k hk
  exact ⟨b,off,a',c',e,by omega,c0,c1,c2,c3,hin.wide hB⟩⟩
theorem cu.wide {B B':Nat}{w:World}(hB:B≤B'):∀ {h:Nat} {s:Sy.St} {xa ba ea:Option Addr},cu B w h s xa ba ea→cu B' w h s xa ba ea
 | 0,_,_,_,_,hx=>hx.elim
 | h+1,_,_,_,_,hx=>⟨hx.1,hx.2.1.elim fun n hn=>⟨n,hn.wide hB⟩,hx.2.2.1,hx.2.2.2.1,
  fun i k hk=>by
   obtain ⟨b,off,mD,xc,ba',bc,mE,ec,e,hb,c0,c1,c2,c3,c4,c5,c6,c7,hin⟩:=hx.2.2.2.2.1 i k hk
   exact ⟨b,off,mD,xc,ba',bc,mE,ec,e,by omega,c0,c1,c2,c3,c4,c5,c6,c7,hin.wide hB⟩,
  fun i k hk=>by
   obtain ⟨b,off,mD,xc,ba',bc,mE,ec,e,hb,c0,c1,c2,c3,c4,c5,c6,c7,hin⟩:=hx.2.2.2.2.2 i k hk
   exact ⟨b,off,mD,xc,ba',bc,mE,ec,e,by omega,c0,c1,c2,c3,c4,c5,c6,c7,hin.wide hB⟩⟩
theorem iw.wide {B B':Nat}{w:World}(hB:B≤B'){h:Nat}{l:List Sy.St}{a:Option Addr}(hx:iw B w h l a):iw B' w h l a :=
 ⟨hx.1,fun i k hk=>by
  obtain ⟨b,off,mD,xc,ba',bc,mE,ec,e,hb,c0,c1,c2,c3,c4,c5,c6,c7,hin⟩:=hx.2 i k hk
  exact ⟨b,off,mD,xc,ba',bc,mE,ec,e,by omega,c0,c1,c2,c3,c4,c5,c6,c7,hin.wide hB⟩⟩
theorem jL.wide {B B':Nat}{w:World}(hB:B≤B'){d:Sy.Df}{pa ba:Option Addr}(hx:jL B w d pa ba):jL B' w d pa ba:=by
 obtain ⟨h1,h2,h3,⟨hp,hpm⟩,h,hb⟩:=hx
 refine ⟨h1,h2,h3,⟨hp,fun i p hi=>?_⟩,h,hb.wide hB⟩
 obtain ⟨b,off,e,hb,c0,c1,c2,z1,z2⟩:=hpm i p hi
 exact ⟨b,off,e,by omega,c0,c1,c2,z1,z2⟩
theorem dS.wide {B B':Nat}{w:World}(hB:B≤B'){l:List Sy.Df}{a:Option Addr}(hx:dS B w l a):dS B' w l a :=
 ⟨hx.1,fun i d hd=>by
  obtain ⟨b,off,pa,pc,ba,bc,ha,hb,c0,c1,c2,c3,c4,c5,c6,c7,c8,hin⟩:=hx.2 i d hd
  exact ⟨b,off,pa,pc,ba,bc,ha,by omega,c0,c1,c2,c3,c4,c5,c6,c7,c8,hin.wide hB⟩⟩
theorem aax {P Bs B:Nat}{w w':World}(h:Fr P Bs w w')(hB:B≤P)(hP:P<Bs)(hs:B≤w.heap.size):Below B w w' :=
 ⟨h.os,h.tape,h.output,h.size,fun k hk=>by
  obtain ⟨x,hx⟩:∃ x,w.heap[k]?=some x:=⟨_,Array.getElem?_eq_getElem (by omega)⟩
  rw [h.block k x (by omega) hx (.inl (by omega)),hx]⟩
theorem aay {w:World}(h:Lib.TabIs Tryz.prog w "internal/strconv.uint64pow10" .u64 Lib.pow10Tab):2<w.heap.size:=by
 unfold Lib.TabIs World.var? at h
 rw [IU] at h
 simp only [Option.bind_some] at h
 cases ho:w.heap[2]? with
 | none=>simp [ho] at h
 | some o=>exact lt_of_block ho
theorem Qg (ws:List ByteArray):(Lib.join (ws.map (·.data.toList)) [32]).length≤Sy.wt ws:=by
 rw [Sy.ZZ]
 unfold Sy.wt
 simp
theorem Qh (l:List Sy.Df)(a:Option Addr)(c:Nat)(r:ByteArray)(er:Int)(w:World)(hX:Hid (dS w.heap.size w l a))(HW:Hid (Sy.dx l=(0,0)))(htab:Hid (Lib.TabIs Tryz.prog w "internal/strconv.uint64pow10" .u64 Lib.pow10Tab))(Qi:Hid (jl w 0))
  (HR:Hid ((r,er)=if 6000<(uJ (Sy.dW l)).size then ((⟨#[]⟩:ByteArray),4) else (uJ (Sy.dW l),0))) :
  Calls Tryz.prog 5 #[.slice a l.length c] w fun e w'=>e=.returned (.tuple #[.string r,.agg #[.int .i64 er,.int .i64 0]])∧Below w.heap.size w w':=by
 have HA:Hid ((∀ d ∈ l,D5 d)∧Sy.wt (Sy.dW l)≤800000):=(Qe (by rw [HW.out])).2
 have hlen:l.length≤30:=(Qe (l:=l) (by rw [HW.out])).1
 go_enter Tryz.func5,Tryz.ntmps5
 go_wp2_with fail
 refine (CF l a c _ ((hX.out.same (D6 ((Below.refl _ w).alloc (Nat.le_refl _) bR) (Nat.le_refl _))).wide (by simp))).mono ?_
 rintro e w1 ⟨rfl,hb1⟩
 rw [HW.out]
 obtain ⟨F,hF⟩:∃ F,F=w1.alloc bR:=⟨_,rfl⟩
 have Qj:Hid (Below w.heap.size w F):=by rw [hF];exact yI (yI ((Below.refl _ w).alloc (Nat.le_refl _) bR) hb1 (by simp)) ((Below.refl _ w1).alloc (Nat.le_refl _) bR) (by have:=hb1.size;simp at this;omega)
 have jO:Hid (F.heap[w.heap.size]?=some bR):=by
  rw [hF]
  unfold Hid
  rw [Below.heap_alloc _ _ _ (by have:=hb1.size;simp at this;omega),hb1.block _ (by simp)]
  exact heap_alloc_new w bR
 have HFe:Hid (w1.alloc bR=F):=hF.symm
 have Qk:w.heap.size<F.heap.size:=by rw [hF];have:=hb1.size;simp at this ⊢;omega
 clear hF hb1
 go_wp2_with fail
 rw [HFe.out]
 refine (Zc F (Qi.out.keep Qj.out Qi.out.lt)).mono ?_
 rintro e w2 ⟨rfl,hM,hb2⟩
 have HM:Hid (mM w2 F.heap.size):=hM
 have HB2:Hid (Below F.heap.size F w2):=hb2
 have D7:F.heap.size<w2.heap.size:=lt_of_block hM
 have ht1:=aay htab.out
 have hP1:w.heap.size<w2.heap.size:=by omega
 obtain ⟨Q0,hQ⟩:∃ Q0,Q0=w2.alloc (.cells #[.slice none 0 0,.map (some F.heap.size)] 44):=⟨_,rfl⟩
 have Ja:Hid (Below w.heap.size w Q0):=by rw [hQ];exact yI (yI Qj.out HB2.out (by omega)) ((Below.refl _ w2).alloc (Nat.le_refl _) _) (by omega)
 have HQ0:Hid (Q0.heap[w.heap.size]?=some bR):=by
  rw [hQ]
  unfold Hid
  rw [Below.heap_alloc _ _ _ (by omega),HB2.out.block _ Qk]
  exact jO.out
 have Ql:Hid (jm Q0 F.heap.size):=by
  have h1:mM Q0 F.heap.size:=by unfold mM;rw [hQ,Below.heap_alloc _ _ _ D7];exact HM.out
  exact ⟨h1,wR.below htab.out Ja.out⟩
 have Jb:Hid (PR Q0 w2.heap.size (w2.heap.size+1) [] (.map (some F.heap.size))):=⟨_,by rw [hQ];exact heap_alloc_new w2 _,World.ownsRow_nil _ _ _ _⟩
 have hQz:Q0.heap.size=w2.heap.size+1:=by rw [hQ];simp
 have fC:Hid (Lay w.heap.size F.heap.size w2.heap.size (w2.heap.size+1)):=⟨by omega,by omega,by omega,by omega,by omega⟩
 have Qm:Hid (w2.alloc (.cells #[.slice none 0 0,.map (some F.heap.size)] 44)=Q0):=hQ.symm
 clear hM hb2 hQ HM HB2
 go_wp2
 rw [Qm.out]
 clear Qm
 generalize w2.heap.size=P at D7 hP1 Jb hQz fC ⊢
 generalize F.heap.size=M at Qk D7 Jb fC Ql ⊢
 go_loopw [19] (fun i wr=>∃ (k:Nat) (done:List ByteArray),k≤l.length∧i=.int .i64 k∧Hid (PR wr P (P+1) done (.map (some M)))∧Hid (Fr P (P+1) Q0 wr)∧Hid (done++Sy.dW (l.drop k)=Sy.dW l)) (fun i _=>l.length - (intOf i).toNat)
 case atStart=>exact ⟨0,[],Nat.zero_le _,rfl,Jb,Fr.refl _ _ _,by rw [List.drop_zero];rfl⟩
 case round =>
  obtain ⟨k,done,hk,rfl,kP,iK,HD⟩:=hrel
  have hrz:=iK.out.size
  by_cases hlt:k<l.length
  ·obtain ⟨d,hd⟩:∃ d,l[k]?=some d:=⟨_,List.getElem?_eq_getElem hlt⟩
   have HDg:Hid (mP d):=(HA.out.1 d (List.mem_of_getElem? hd)).ok
   have HDn:Hid ((done++Sy.fI d)++Sy.dW (l.drop (k+1))=Sy.dW l):=by
    have:=HD.out
    rw [aaw hd,← List.append_assoc] at this
    exact this
   have hnn:done.length+(Sy.fI d).length≤1000000:=by
    have h2:=congrArg Sy.wt HDn.out
    rw [Sy.eU,Sy.eU] at h2
    have h3:=HA.out.2
    have h4:=Sy.DN done
    have h5:=Sy.DN (Sy.fI d)
    omega
   have HSm:Hid (Go.Proofs.YtolfleeidpeomaaGreatDoor.Same w.heap.size w wr):=(D6 Ja.out (Nat.le_refl _)).trans (iK.out.same (by omega) (by omega) (by omega))
   obtain ⟨b,off,pa,pc,ba,bc,rfl,hb,q0,q1,q2,q3,q4,q5,q6,q7,q8,hin⟩:=(hX.out.same HSm.out).2 k d hd
   obtain ⟨V,hV⟩:∃ V,V=wr.alloc (dA d pa pc ba bc):=⟨_,rfl⟩
   have rQ:Hid (Below wr.heap.size wr V):=by rw [hV];exact (Below.refl _ wr).alloc (Nat.le_refl _) _
   have gJ:Hid (jL w.heap.size V d pa ba):=hin.same (D6 rQ.out (by omega))
   have Jc:Hid (PR V P (P+1) done (.map (some M))):=by rw [hV];exact kP.out.alloc _
   have Qn:Hid (Fr P (P+1) Q0 V):=by rw [hV];exact iK.out.trans (Fr.alloc _ _ _ _)
   have HMv:Hid (jm V M):=Ql.out.fr Qn.out fC.out.mb fC.out.mp fC.out.gp fC.out.pb
   have Fy:P+1≤V.heap.size:=by rw [hV];simp;omega
   have vC:Hid (wr.alloc (dA d pa pc ba bc)=V):=hV.symm
   clear hin hd hV
   go_wp2_with fail
   rw [vC.out]
   refine (aaq w.heap.size M P (P+1) fC.out d pa pc ba bc done V HDg gJ Jc HMv Fy hnn).mono ?_
   rintro e w4 hp
   have nY:Hid (PR w4 P (P+1) (done++Sy.fI d) (.map (some M))):=hp.2.1
   have lq:Hid (Fr P (P+1) Q0 w4):=Qn.out.trans hp.2.2
   obtain rfl:=hp.1
   clear hp q0 q1 q2 q3 q4 q5 q6 q7 q8
   go_wp2
   go_roundw
   case rel=>exact ⟨k+1,_,by omega,by go_num,nY,lq,HDn⟩
   case measure=>simp [intOf];omega
  ·have vQ:Hid (done=Sy.dW l):=by
    have:=HD.out
    rw [List.drop_of_length_le (by omega)] at this
    unfold Hid
    simpa [Sy.dW] using this
   have HBr:Hid (Below w.heap.size w wr):=Ja.out.trans (aax iK.out (by omega) (by omega) (by omega))
   have HZ0:Hid (wr.heap[w.heap.size]?=some bR):=iK.out.block _ _ (by omega) HQ0.out (.inl (by omega))
   obtain ⟨z,hz⟩:∃ z,z=uJ (Sy.dW l):=⟨_,rfl⟩
   have HZ:Hid (uJ done=z):=by rw [hz,vQ.out];rfl
   have HR2:Hid ((r,er)=if 6000<z.size then ((⟨#[]⟩:ByteArray),4) else (z,0)):=by rw [hz];exact HR
   have hdl:done.length≤1000000:=by
    rw [vQ.out]
    have h3:=HA.out.2
    have h4:=Sy.DN (Sy.dW l)
    omega
   have hjl:(Lib.join (done.map (·.data.toList)) [32]).length≤140737488355328:=by
    rw [vQ.out]
    have h3:=HA.out.2
    have h4:=Qg (Sy.dW l)
    omega
   have hzz:z.size≤800000:=by
    have h3:=HA.out.2
    have h4:=Qg (Sy.dW l)
    have h5:z.size=(Lib.join ((Sy.dW l).map (·.data.toList)) [32]).length:=by rw [hz];exact List.size_toArray
    omega
   clear hz
   go_wp2_with fail
   refine (aau P (P+1) done (.map (some M)) wr kP hdl hjl).mono ?_
   rintro e w5 ⟨he,hb5⟩
   rw [HZ.out] at he
   subst he
   have mZ:Hid (Below w.heap.size w w5):=yI HBr.out hb5 (by omega)
   obtain ⟨c0,c1,f0,f1⟩:=bE ((hb5.block _ (by omega)).trans HZ0.out)
   clear hb5 hjl
   by_cases xV:6000<z.size
   ·have HR3:Hid (r=⟨#[]⟩∧er=4):=by
     have h1:=HR2.out
     rw [if_pos xV] at h1
     exact ⟨congrArg Prod.fst h1,congrArg Prod.snd h1⟩
    have hz7:6000<(z.size:Int):=by omega
    clear xV
    go_wp2
    refine bodyPost_ret (v:=.tuple #[.string ⟨#[]⟩,.agg #[.int .i64 4,.int .i64 0]]) (by simp [results,Tryz.results5,go_sem,c0,c1]) rfl ⟨by rw [HR3.out.1,HR3.out.2],?_⟩
    exact (mZ.out.setCell (p:=⟨w.heap.size,0,none⟩) (Nat.le_refl _) _).setCell (p:=⟨w.heap.size,1,none⟩) (Nat.le_refl _) _
   ·have HR3:Hid (r=z∧er=0):=by
     have h1:=HR2.out
     rw [if_neg xV] at h1
     exact ⟨congrArg Prod.fst h1,congrArg Prod.snd h1⟩
    have hz7:(z.size:Int)≤6000:=by omega
    clear xV
    go_wp2
    refine bodyPost_ret (v:=.tuple #[.string z,.agg #[.int .i64 0,.int .i64 0]]) (by simp [results,Tryz.results5,go_sem,c0,c1]) rfl ⟨by rw [HR3.out.1,HR3.out.2],?_⟩
    exact (mZ.out.setCell (p:=⟨w.heap.size,0,none⟩) (Nat.le_refl _) _).setCell (p:=⟨w.heap.size,1,none⟩) (Nat.le_refl _) _
theorem aaH (l:List Sy.Df)(a:Option Addr)(c:Nat)(er:Int)(num:Nat)(w:World)(hX:Hid (dS w.heap.size w l a))(HW:Hid (Sy.dx l=(er,num)))(hne:Hid (er≠0)) :
  Calls Tryz.prog 5 #[.slice a l.length c] w fun e w'=>e=.returned (.tuple #[.string ⟨#[]⟩,.agg #[.int .i64 er,.int .i64 num]])∧Below w.heap.size w w':=by
 have e0:(er != 0)=true:=by have:=hne.out;simp;exact this
 go_enter Tryz.func5,Tryz.ntmps5
 go_wp2_with fail
 refine (CF l a c _ ((hX.out.same (D6 (Qf w bR) (Nat.le_refl _))).wide (by simp))).mono ?_
 rintro e w1 ⟨rfl,hb1⟩
 rw [HW.out]
 have HB1:Hid (Below w.heap.size w w1):=yI (Qf w bR) hb1 (by simp)
 have hz:=hb1.size
 simp at hz
 obtain ⟨Z,hZ⟩:∃ Z,Z=w1.alloc (.cells #[.int .i64 er,.int .i64 num] 26):=⟨_,rfl⟩
 have Qo:Z.heap[w.heap.size]?=some bR:=by rw [hZ,Below.heap_alloc _ _ _ (by omega)];exact (hb1.block w.heap.size (by simp)).trans (heap_alloc_new w bR)
 obtain ⟨c0,c1,f0,f1⟩:=bE Qo
 have g0:Z.cell? ⟨w1.heap.size,0,none⟩=some (.int .i64 er):=by rw [hZ,World.cell?_alloc_mark];rfl
 have g1:Z.cell? ⟨w1.heap.size,1,none⟩=some (.int .i64 num):=by rw [hZ,World.cell?_alloc_mark];rfl
 have HZb:Hid (Below w.heap.size w Z):=by rw [hZ];exact HB1.out.alloc (by omega) _
 have HZe:Hid (w1.alloc (.cells #[.int .i64 er,.int .i64 num] 26)=Z):=hZ.symm
 clear hb1 hZ Qo
 go_upto_region 3 with fail
 rw [HZe.out]
 go_region
 all_goals go_wp2
 all_goals refine bodyPost_ret (v:=.tuple #[.string ⟨#[]⟩,.agg #[.int .i64 er,.int .i64 num]]) (by simp [results,Tryz.results5,go_sem,c0,c1]) rfl ⟨rfl,?_⟩
 all_goals exact ((HZb.out.setCell (p:=⟨w.heap.size,0,none⟩) (Nat.le_refl _) _).setCell (p:=⟨w.heap.size,1,none⟩) (Nat.le_refl _) _).drew
theorem aaK {w:World}{N:Nat}{a b c d:Value}{T:TypeId}(h:w.heap[N]?=some (.cells #[a,b] T (0,0))):((w.setCell ⟨N,0,none⟩ c).setCell ⟨N,1,none⟩ d).heap[N]?=some (.cells #[c,d] T (0,0)):=by
 simp only [World.setCell,Array.getElem?_modify,if_true,h,Option.map_some]
 rfl
theorem aaL (s:ByteArray)(r:List Sy.Df × Int × Int)(w:World)(hs:s.size≤maxLen)(hT:jl w 0)(hr:Hid (r=kD s)) :
  Calls Tryz.prog 6 #[.string s] w fun e w'=>∃ a c,e=.returned (.tuple #[.slice a r.1.length c,.agg #[.int .i64 r.2.1,.int .i64 r.2.2]])∧r.1.length≤6000∧mo (gK w w') w' r.1 a∧Below w.heap.size w w':=by
 have hr':=hr.out
 subst hr'
 exact PI s w hs hT
def uK (l:List Sy.Df):ByteArray × Int × Int :=
 if (Sy.dx l).1≠0 then (⟨#[]⟩,(Sy.dx l).1,(Sy.dx l).2)
 else if 6000<(mY l).size then (⟨#[]⟩,4,0) else (mY l,0,0)
theorem aaM (l:List Sy.Df)(r:ByteArray × Int × Int)(a:Option Addr)(c:Nat)(w:World)(hX:Hid (dS w.heap.size w l a))(hP:Hid (wR w))(hT:Hid (jl w 0))(hr:Hid (r=uK l)) :
  Calls Tryz.prog 5 #[.slice a l.length c] w fun e w'=>e=.returned (.tuple #[.string r.1,.agg #[.int .i64 r.2.1,.int .i64 r.2.2]])∧Below w.heap.size w w':=by
 have hr':=hr.out
 unfold uK at hr'
 by_cases h0:(Sy.dx l).1=0
 ·rw [if_neg (by simpa using h0)] at hr'
  have hz:=Mg l h0
  have HW:Hid (Sy.dx l=(0,0)):=Prod.ext h0 hz
  by_cases h1:6000<(mY l).size
  ·rw [if_pos h1] at hr'
   subst hr'
   exact Qh l a c ⟨#[]⟩ 4 w hX HW hP hT (by have h2:6000<(uJ (Sy.dW l)).size:=h1;unfold Hid;rw [if_pos h2])
  ·rw [if_neg h1] at hr'
   subst hr'
   exact Qh l a c (mY l) 0 w hX HW hP hT (by have h2:¬ 6000<(uJ (Sy.dW l)).size:=h1;unfold Hid;rw [if_neg h2];rfl)
 ·rw [if_pos h0] at hr'
  subst hr'
  exact aaH l a c (Sy.dx l).1 (Sy.dx l).2 w hX rfl h0
theorem aaN {l:List Sy.Df}(h:(uK l).2.1=0):(Sy.dx l).1=0∧(mY l).size≤6000∧(uK l).1=mY l:=by
 unfold uK at h ⊢
 by_cases h0:(Sy.dx l).1=0
 ·rw [if_neg (by simpa using h0)] at h ⊢
  by_cases h1:6000<(mY l).size
  ·rw [if_pos h1] at h;simp at h
  ·rw [if_neg h1];exact ⟨h0,by omega,rfl⟩
 ·rw [if_pos h0] at h;exact absurd h h0
theorem aaO (l:List Sy.Df)(h:(mY l).size≤6000):(mY l).size≤maxLen:=by unfold maxLen;omega
end Go.Proofs.YtolfleeidpeomaaGreatDoor
