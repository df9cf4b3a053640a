/- l91Any, l6Open -/
import Derived.Test.YtklmpagpkeffjaaDraw2
import Derived.Test.YtklmpagpkeffjaaCopy
import Derived.Deep.Cut
namespace Go.Proofs.Ytklmpagpkeffjaa
open Go.RowKit

/-- Some task was drawn, be it one or not. -/
def DrewA (g p d : Nat) (w : World) (e : Ending) (w' : World) : Prop := ∃ (t : T) (a : Option Addr) (c p' : Nat), e = .returned (.agg #[.int .i64 t.k, .int .i64 t.n, .slice a t.ps.length c]) ∧ OwS w' 42 (fun b => w.heap.size ≤ b ∧ b < w'.heap.size) t.ps a c ∧
  i64ok t.k ∧ i64ok t.n ∧ t.nodes ≤ 100 ∧ p ≤ p' ∧ p' ≤ p + d ∧ RdAt w' g p' ∧ Only g w w'

theorem anyEnd {w w5 : World} {g p p' d : Nat} {F : Nat → Prop} {t : T} {a : Option Addr} {c : Nat} (hgl : g < w.heap.size) (hR : RdAt w5 g p') (hO : Only g w w5) (how : OwS w5 42 F t.ps a c) (hF : ∀ b, F b → w.heap.size < b ∧ b < w5.heap.size)
    (ok1 : i64ok t.k) (ok2 : i64ok t.n) (hm : t.nodes ≤ 100) (h1 : p ≤ p') (h2 : p' ≤ p + d) :
    DrewA g p d w (.returned (.agg #[.int .i64 t.k, .int .i64 t.n, .slice a t.ps.length c])) (set3 w5 w.heap.size (.int .i64 t.k) (.int .i64 t.n) (.slice a t.ps.length c)) :=
  ⟨t, a, c, p', rfl, (how.set3 (fun b hb => by have := hF b hb; omega) _ _ _).weaken (fun b hb => by have := hF b hb; rw [set3_size]; omega), ok1, ok2, hm, h1, h2, hR.set3 hgl _ _ _, hO.set3 (Nat.le_refl _) _ _ _⟩

end Go.Proofs.Ytklmpagpkeffjaa
