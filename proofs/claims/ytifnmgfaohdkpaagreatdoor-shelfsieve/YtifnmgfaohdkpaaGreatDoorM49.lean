/- The module of sieve. -/
import Derived.Test.YtifnmgfaohdkpaaGreatDoorM48
import Derived.Test.YtifnmgfaohdkpaaGreatDoorM47
namespace Go.Proofs.YtifnmgfaohdkpaaGreatDoor
namespace Xe
def SC:ByteArray:=⟨#[115,105,101,118,101]⟩
def BA:Vf.Md:=⟨[⟨1,1⟩,⟨1,1⟩,⟨1,1⟩],[⟨4,0,[1],0,0,[⟨1,0,2⟩,⟨4,0,0⟩,⟨3,0,0⟩,⟨1,0,26⟩,⟨15,0,0⟩,⟨22,13,0⟩,⟨3,0,0⟩,⟨26,0,0⟩,⟨3,0,0⟩,⟨1,0,1⟩,⟨8,0,0⟩,⟨4,0,0⟩,⟨21,2,0⟩,⟨25,0,0⟩]⟩,⟨4,0,[1],0,0,[⟨1,0,2⟩,⟨28,0,0⟩,⟨2,1,0⟩,⟨22,16,0⟩,⟨27,0,0⟩,⟨4,0,0⟩,⟨3,0,0⟩,⟨1,0,2⟩,⟨12,0,0⟩,⟨1,0,0⟩,⟨14,0,0⟩,⟨22,15,0⟩,⟨3,0,0⟩,⟨26,1,0⟩,⟨21,15,0⟩,⟨21,2,0⟩,⟨25,0,0⟩]⟩,⟨4,0,[1],0,0,[⟨1,0,3⟩,⟨28,0,0⟩,⟨2,1,0⟩,⟨22,16,0⟩,⟨27,1,0⟩,⟨4,0,0⟩,⟨3,0,0⟩,⟨1,0,3⟩,⟨12,0,0⟩,⟨1,0,0⟩,⟨14,0,0⟩,⟨22,15,0⟩,⟨3,0,0⟩,⟨26,2,0⟩,⟨21,15,0⟩,⟨21,2,0⟩,⟨25,0,0⟩]⟩,⟨4,0,[1],0,0,[⟨2,1,0⟩,⟨22,21,0⟩,⟨27,2,0⟩,⟨4,0,0⟩,⟨3,0,0⟩,⟨1,0,5⟩,⟨12,0,0⟩,⟨1,0,0⟩,⟨14,0,0⟩,⟨22,13,0⟩,⟨3,0,0⟩,⟨28,0,0⟩,⟨21,20,0⟩,⟨3,0,0⟩,⟨1,0,5⟩,⟨13,0,0⟩,⟨22,20,0⟩,⟨3,0,0⟩,⟨28,0,0⟩,⟨21,20,0⟩,⟨21,0,0⟩,⟨25,0,0⟩]⟩]⟩
noncomputable def SE:Cl:=func Tryz.prog (Bv Bz yx) 60 false
theorem adO:fH Tryz.prog SE:=(D5 o9 (J6 adM adN Et) (fun call hC=>Eg o9 Bu call hC) 60).1
set_option maxRecDepth 1000000 in
theorem adP:ans (SE 9 [.string SC] s0)=some BA:=by kernel_rfl
end Xe
namespace Xe
def BB:vP:=⟨16,[98,111,120,32,112,105,110,103,32,110,117,109,32,49,32,59,10,98,111,120,32,112,111,110,103,32,110,117,109,32,49,32,59,10,116,97,115,107,32,111,110,101,32,123,10,32,32,108,101,116,32,120,32,61,32,49,32,59,10,32,32,119,104,105,108,101,32,120,32,60,32,49,48,48,32,123,32,115,101,110,100,32,112,105,110,103,32,120,32,59,32,120,32,61,32,114,101,99,118,40,112,111,110,103,41,32,59,32,111,117,116,32,120,32,59,32,125,10,125,10,116,97,115,107,32,111,116,104,101,114,32,123,10,32,32,119,104,105,108,101,32,116,114,117,101,32,123,32,115,101,110,100,32,112,111,110,103,32,114,101,99,118,40,112,105,110,103,41,32,42,32,50,32,59,32,125,10,125,10],100000,.tuple #[.slice (some ⟨129904,0,none⟩) 4 9,.agg #[.int .i64 0,.int .i64 0]],134635,[(129904,[.int .i64 1,.string ⟨#[112,105,110,103]⟩,.int .i64 1,.string ⟨#[]⟩,.int .i64 0,.string ⟨#[]⟩,.int .i64 1,.slice none 0 0,.slice none 0 0,.int .i64 1,.string ⟨#[112,111,110,103]⟩,.int .i64 1,.string ⟨#[]⟩,.int .i64 0,.string ⟨#[]⟩,.int .i64 1,.slice none 0 0,.slice none 0 0,.int .i64 4,.string ⟨#[111,110,101]⟩,.int .i64 0,.string ⟨#[]⟩,.int .i64 0,.string ⟨#[]⟩,.int .i64 0,.slice none 0 0,.slice (some ⟨126055,0,none⟩) 2 8,.int .i64 4,.string ⟨#[111,116,104,101,114]⟩,.int .i64 0,.string ⟨#[]⟩,.int .i64 0,.string ⟨#[]⟩,.int .i64 0,.slice none 0 0,.slice (some ⟨129827,0,none⟩) 1 8]),(126055,[.int .i64 1,.string ⟨#[120]⟩,.int .i64 1,.int .i64 1,.string ⟨#[]⟩,.slice none 0 0,.slice none 0 0,.slice none 0 0,.int .i64 4,.string ⟨#[]⟩,.int .i64 13,.int .i64 0,.string ⟨#[]⟩,.slice (some ⟨119974,0,none⟩) 2 4,.slice (some ⟨125978,0,none⟩) 3 8,.slice none 0 0]),(119974,[.int .i64 3,.int .i64 0,.string ⟨#[120]⟩,.slice none 0 0,.int .i64 1,.int .i64 100,.string ⟨#[]⟩,.slice none 0 0]),(125978,[.int .i64 7,.string ⟨#[112,105,110,103]⟩,.int .i64 3,.int .i64 0,.string ⟨#[120]⟩,.slice none 0 0,.slice none 0 0,.slice none 0 0,.int .i64 2,.string ⟨#[120]⟩,.int .i64 20,.int .i64 0,.string ⟨#[112,111,110,103]⟩,.slice none 0 0,.slice none 0 0,.slice none 0 0,.int .i64 8,.string ⟨#[]⟩,.int .i64 3,.int .i64 0,.string ⟨#[120]⟩,.slice none 0 0,.slice none 0 0,.slice none 0 0]),(129827,[.int .i64 4,.string ⟨#[]⟩,.int .i64 2,.int .i64 1,.string ⟨#[]⟩,.slice none 0 0,.slice (some ⟨129750,0,none⟩) 1 8,.slice none 0 0]),(129750,[.int .i64 7,.string ⟨#[112,111,110,103]⟩,.int .i64 8,.int .i64 0,.string ⟨#[]⟩,.slice (some ⟨129278,0,none⟩) 2 4,.slice none 0 0,.slice none 0 0]),(129278,[.int .i64 20,.int .i64 0,.string ⟨#[112,105,110,103]⟩,.slice none 0 0,.int .i64 1,.int .i64 2,.string ⟨#[]⟩,.slice none 0 0])]⟩
set_option maxRecDepth 1000000 in
theorem adQ:yz (J4 BB.f [.string ⟨⟨BB.arg⟩⟩] ⟨BB.c0,h0,[]⟩) BB=true:=by kernel_rfl
end Xe
namespace Xe
def SF:ByteArray:=⟨#[112,105,110,103,112,111,110,103]⟩
def BC:Vf.Md:=⟨[⟨1,1⟩,⟨1,1⟩],[⟨4,0,[1],0,0,[⟨1,0,1⟩,⟨4,0,0⟩,⟨3,0,0⟩,⟨1,0,100⟩,⟨15,0,0⟩,⟨22,13,0⟩,⟨3,0,0⟩,⟨26,0,0⟩,⟨27,1,0⟩,⟨4,0,0⟩,⟨3,0,0⟩,⟨28,0,0⟩,⟨21,2,0⟩,⟨25,0,0⟩]⟩,⟨4,0,[],0,0,[⟨2,1,0⟩,⟨22,7,0⟩,⟨27,0,0⟩,⟨1,0,2⟩,⟨10,0,0⟩,⟨26,1,0⟩,⟨21,0,0⟩,⟨25,0,0⟩]⟩]⟩
noncomputable def SG:Cl:=func Tryz.prog (Bv BB yx) 60 false
theorem adR:fH Tryz.prog SG:=(D5 o9 (J6 Sv adQ Et) (fun call hC=>Eg o9 Bu call hC) 60).1
set_option maxRecDepth 1000000 in
theorem adS:ans (SG 9 [.string SF] s0)=some BC:=by kernel_rfl
end Xe
end Go.Proofs.YtifnmgfaohdkpaaGreatDoor
