/- For the walk of VerifyMore: rows of one's own, appended to twice. -/
import Derived.Test.YtbkimpimoclobaaM44
import Derived.Test.YtbkimpimoclobaaM45
import Derived.Test.YtbkimpimoclobaaM46
import Derived.Laws.AppendOwnNone
namespace Go.Proofs.Ytbkimpimoclobaa
open Go.RowKit

theorem uvs_set5 (y : Vf.Un) (ac : Option Addr) (cc : Nat) (x : UV) (hk : y.kind = x.u.kind) (hp : y.params = x.u.params) (hl : y.locals = x.u.locals) (hr : y.result = x.u.result) (ht : y.takes = x.u.takes) : ∀ (l : List UV) (i : Nat), l[i]? = some x → uvs (l.set i ⟨y, x.al, ac, x.cl, cc⟩) = (uvs l).set (i * 6 + 5) (.slice ac y.code.length cc)
  | z :: l, 0, h => by
    simp at h
    subst h
    simp [uvs, hk, hp, hl, hr, ht]
  | z :: l, i + 1, h => by
    have ih := uvs_set5 y ac cc x hk hp hl hr ht l i (by simpa using h)
    rw [List.set_cons_succ, uvs_cons, ih, uvs_cons]
    have e : (i + 1) * 6 = i * 6 + 5 + 1 := by omega
    rw [e]
    simp only [uvC, List.cons_append, List.nil_append, List.set_cons_succ]

end Go.Proofs.Ytbkimpimoclobaa

