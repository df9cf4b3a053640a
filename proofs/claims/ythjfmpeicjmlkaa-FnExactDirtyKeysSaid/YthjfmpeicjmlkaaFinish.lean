/- impl.finish with whatever step -/
import Derived.Test.YthjfmpeicjmlkaaNodes
import Derived.Deep.LoopGhost
import Derived.LaidEqlPtr
namespace Go.Proofs.Ythjfmpeicjmlkaa
open Go.RowKit

theorem ElRow.take {α : Type} {f : α → Value} {e : TypeId} {w : World} {base gb n cap : Nat} {l : List α} (h : ElRow f e w base (.slice (some ⟨gb, 0, none⟩) n cap) l) (m : Nat) (hm : m ≤ l.length) : ElRow f e w base (.slice (some ⟨gb, 0, none⟩) m cap) (l.take m) := by
  obtain ⟨h0, ⟨h1, _⟩ | ⟨g', cap', cur, h1, h2, h3, h4, h5, h6, h7⟩⟩ := h
  · cases h1
  · simp only [Value.slice.injEq, Option.some.injEq, Addr.mk.injEq, and_true] at h1
    obtain ⟨rfl, rfl, rfl⟩ := h1
    have hl : (l.take m).length = m := by rw [List.length_take]; omega
    refine ⟨by rw [hl]; simp; omega, .inr ⟨gb, cap, cur, by rw [hl], h2, h3, by omega, h5, h6, ?_⟩⟩
    rw [hl, List.map_take, ← h7, List.take_take]
    congr 1
    omega

def finM (d : Int → Bool) (n len : Nat) : Nat := undone d n * (n + 1) + (n - len)
theorem finM_pop {d : Int → Bool} {n len : Nat} {k : Int} (h0 : 0 ≤ k) (h1 : k < n) (hd : d k = false) (hl : len + 1 ≤ n) : finM (upd d k) n len < finM d n (len + 1) := by
  have h := undone_upd d k n h0 h1 hd
  unfold finM
  rw [← h, Nat.succ_mul]
  omega
theorem finM_push {d : Int → Bool} {n len : Nat} (hl : len + 1 ≤ n) : finM d n (len + 1) < finM d n len := by
  unfold finM
  omega

end Go.Proofs.Ythjfmpeicjmlkaa
