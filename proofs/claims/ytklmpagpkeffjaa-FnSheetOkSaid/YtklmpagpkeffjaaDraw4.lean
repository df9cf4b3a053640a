/- l6Open; DrawTaskNodes -/
import Derived.Test.YtklmpagpkeffjaaDraw3
namespace Go.Proofs.Ytklmpagpkeffjaa
open Go.RowKit

/-- A code that came in. -/
def CodeAt (w : World) (a : Option Addr) (n c : Nat) : Prop := n ≤ c ∧ c ≤ 9223372036854775807 ∧ (n = 0 ∨ ∃ b o, a = some ⟨b, o, none⟩ ∧ b < w.heap.size ∧ ∀ i, i < n → ∃ v : Int, 0 ≤ v ∧ v ≤ 255 ∧ w.cell? ⟨b, o + i, none⟩ = some (.int .u8 v))
theorem CodeAt.below {w w' : World} {a : Option Addr} {n c : Nat} (h : CodeAt w a n c) (hb : Below w.heap.size w w') : CodeAt w' a n c := by
  obtain ⟨h1, h2, h3⟩ := h
  refine ⟨h1, h2, ?_⟩
  rcases h3 with h3 | ⟨b, o, ha, hlt, hv⟩
  · exact .inl h3
  · refine .inr ⟨b, o, ha, Nat.lt_of_lt_of_le hlt hb.size, fun i hi => ?_⟩
    obtain ⟨v, v0, v1, hc⟩ := hv i hi
    exact ⟨v, v0, v1, (hb.cell (p := ⟨b, o + i, none⟩) hlt).trans hc⟩
theorem CodeAt.alloc {w : World} {a : Option Addr} {n c : Nat} (h : CodeAt w a n c) (o : Obj) : CodeAt (w.alloc o) a n c := h.below ((Below.refl _ _).alloc (Nat.le_refl _) o)

def Opened (w : World) (e : Ending) (w' : World) : Prop := e = .returned (.pointer (some ⟨w.heap.size, 0, none⟩)) ∧ RdAt w' w.heap.size 0 ∧ Below w.heap.size w w'

theorem rd_new {w : World} {a : Option Addr} {n m c : Nat} {t : TypeId} (h : CodeAt w a n c) (hm : m ≤ 2000) (hmn : m ≤ n) : RdAt (w.alloc (.cells #[.slice a m c, .int .i64 0] t)) w.heap.size 0 := by
  obtain ⟨h1, h2, h3⟩ := h
  have hb := Blk.new w t #[.slice a m c, .int .i64 0]
  refine ⟨a, m, c, hm, by omega, h2, hb.cell 0, hb.cell 1, hb.frozen 1, ?_⟩
  rcases h3 with h3 | ⟨b, o, ha, hlt, hv⟩
  · exact .inl (by omega)
  · refine .inr ⟨b, o, ha, hlt, fun i hi => ?_⟩
    obtain ⟨v, v0, v1, hc⟩ := hv i (by omega)
    exact ⟨v, v0, v1, (((Below.refl w.heap.size w).alloc (Nat.le_refl _) _).cell (p := ⟨b, o + i, none⟩) hlt).trans hc⟩

theorem open_any (w : World) (a : Option Addr) (n c : Nat) (h : CodeAt w a n c) : Calls Try.prog 45 #[.slice a n c] w (Opened w) := by
  have hn := h.1
  have hc := h.2.1
  by_cases hl : 2000 < n
  · obtain ⟨b, o, rfl, hlt, hv⟩ : ∃ b o, a = some ⟨b, o, none⟩ ∧ b < w.heap.size ∧ ∀ i, i < n → ∃ v : Int, 0 ≤ v ∧ v ≤ 255 ∧ w.cell? ⟨b, o + i, none⟩ = some (.int .u8 v) := by
      rcases h.2.2 with h | h
      · omega
      · exact h
    have H := Lib.hid (rd_new (m := 2000) (t := 115) h (by omega) (by omega))
    clear h hv
    go_enter Try.func45, Try.ntmps45
    go_wp2_with fail
    go_ret
    exact ⟨rfl, H.out, (Below.refl _ _).alloc (Nat.le_refl _) _⟩
  · have H := Lib.hid (rd_new (m := n) (t := 115) h (by omega) (by omega))
    clear h
    go_enter Try.func45, Try.ntmps45
    go_wp2_with fail
    go_ret
    exact ⟨rfl, H.out, (Below.refl _ _).alloc (Nat.le_refl _) _⟩

/-- A task drawn off a code. -/
def DrawnT (w : World) (e : Ending) (w' : World) : Prop := ∃ (t : T) (a : Option Addr) (c : Nat), e = .returned (.agg #[.int .i64 t.k, .int .i64 t.n, .slice a t.ps.length c]) ∧ OwS w' 42 (fun b => w.heap.size ≤ b ∧ b < w'.heap.size) t.ps a c ∧
  i64ok t.k ∧ i64ok t.n ∧ t.nodes ≤ 100 ∧ Below w.heap.size w w'


end Go.Proofs.Ytklmpagpkeffjaa
