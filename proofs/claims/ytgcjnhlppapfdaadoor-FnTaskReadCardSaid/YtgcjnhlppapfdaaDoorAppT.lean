/- impl.appendTask: all kinds -/
import Derived.Test.YtgcjnhlppapfdaaDoorAppT0
import Derived.Test.YtgcjnhlppapfdaaDoorAppT2
import Derived.Test.YtgcjnhlppapfdaaDoorAppT3
import Derived.Test.YtgcjnhlppapfdaaDoorAppT4
import Derived.Test.YtgcjnhlppapfdaaDoorAppT5
namespace Go.Proofs.YtgcjnhlppapfdaaDoor
open Go.RowKit Go.Lib
theorem appT_of (t : T) (hF : ∀ u ∈ t.ps, AppT u) (hfit : t.fit = true) : AppT t := by
  obtain ⟨hk0, hk5, _, _⟩ := fit_n hfit
  rcases (show t.k = 0 ∨ t.k = 1 ∨ t.k = 2 ∨ t.k = 3 ∨ t.k = 4 ∨ t.k = 5 by omega) with h | h | h | h | h | h
  · exact appT_0 t hF h
  · exact appT_1 t hF h
  · exact appT_2 t hF h
  · exact appT_3 t hF h
  · exact appT_4 t hF h
  · exact appT_5 t hF h
theorem appT_all : ∀ t, AppT t := T.ind fun k n ps ih => by
  intro w S a c base v bs hat hS hfit
  exact appT_of (.mk k n ps) ih hfit w S a c base v bs hat hS hfit
end Go.Proofs.YtgcjnhlppapfdaaDoor
