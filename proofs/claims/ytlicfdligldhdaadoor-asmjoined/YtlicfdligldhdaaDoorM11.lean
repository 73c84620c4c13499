/- The listing, plainly: what a writer that stops when it is full has written. -/
import Derived.Test.YtlicfdligldhdaaDoorM6
namespace Go.Proofs.YtlicfdligldhdaaDoor.As
open Vf

def full (xs : By) : Bool := decide (60000 < xs.length)
/-- What is written is what is to be written, or both are too long. -/
def Lk (T xs : By) : Prop := xs = T ∨ (60000 < xs.length ∧ 60000 < T.length)
theorem Lk.more {T xs : By} (h : Lk T xs) (y : By) : Lk (T ++ y) (xs ++ y) := by
  rcases h with rfl | ⟨h1, h2⟩
  · exact .inl rfl
  · exact .inr ⟨by simp; omega, by simp; omega⟩
theorem Lk.rest {T xs : By} (h : Lk T xs) (hf : full xs = true) (y : By) : Lk (T ++ y) xs := by
  simp [full] at hf
  rcases h with rfl | ⟨h1, h2⟩
  · exact .inr ⟨hf, by simp; omega⟩
  · exact .inr ⟨hf, by simp; omega⟩
end Go.Proofs.YtlicfdligldhdaaDoor.As

