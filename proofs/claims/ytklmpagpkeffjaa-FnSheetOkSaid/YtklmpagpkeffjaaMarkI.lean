/- markIntS, heldIntS: a list of numbers of the call's own is marked, and held; toIntS as a row -/
import Derived.Test.YtklmpagpkeffjaaCopyM
import Derived.Test.YtklmpagpkeffjaaRow
import Derived.Test.YtklmpagpkeffjaaFromS
namespace Go.Proofs.Ytklmpagpkeffjaa
open Go.RowKit

theorem addr0 (g j : Nat) : (⟨g, 0, none⟩ : Addr).add j = ⟨g, j, none⟩ := by unfold Addr.add; split <;> simp_all

/-- The first j are marked from k on. -/
def mk_ (l : List Int) (k j : Nat) : List Int := (List.range j).map (fun (i : Nat) => ((k + i : Nat) : Int)) ++ l.drop j
def marks (k n : Nat) : List Int := (List.range n).map (fun (i : Nat) => ((k + i : Nat) : Int))
theorem mk_len (l : List Int) (k j : Nat) (h : j ≤ l.length) : (mk_ l k j).length = l.length := by simp [mk_]; omega
theorem mk_zero (l : List Int) (k : Nat) : mk_ l k 0 = l := by simp [mk_]
theorem mk_all (l : List Int) (k : Nat) : mk_ l k l.length = marks k l.length := by simp [mk_, marks]
theorem mk_succ (l : List Int) (k j : Nat) (h : j < l.length) : (mk_ l k j).set j ((k + j : Nat) : Int) = mk_ l k (j + 1) := by
  unfold mk_
  rw [List.range_succ, List.map_append, List.append_assoc, List.set_append_right _ _ (by simp)]
  congr 1
  have e : (l.drop j).set 0 ((k + j : Nat) : Int) = ((k + j : Nat) : Int) :: l.drop (j + 1) := by rw [List.drop_eq_getElem_cons h]; rfl
  rw [List.length_map, List.length_range, Nat.sub_self, e]
  rfl
theorem marks_len (k n : Nat) : (marks k n).length = n := by simp [marks]
theorem marks_get (k n i : Nat) (h : i < (marks k n).length) : (marks k n)[i] = ((k + i : Nat) : Int) := by simp [marks]

theorem NumRow.set_ {w : World} {base g n cap : Nat} {l : List Int} (h : NumRow w base (.slice (some ⟨g, 0, none⟩) n cap) l) (i : Nat) (x : Int) :
    NumRow (w.setCell ⟨g, i, none⟩ (.int .i64 x)) base (.slice (some ⟨g, 0, none⟩) n cap) (l.set i x) := by
  obtain ⟨hl, ⟨h1, _⟩ | ⟨g', cap', cur, h1, h2, h3, h4, h5, h6, h7⟩⟩ := h
  · simp at h1
  · simp only [Value.slice.injEq, Option.some.injEq, Addr.mk.injEq, and_true] at h1
    obtain ⟨rfl, rfl, rfl⟩ := h1
    refine ⟨by simp, .inr ⟨g, cap, cur.setIfInBounds i (.int .i64 x), by rw [List.length_set], h2, ?_, by rw [List.length_set]; exact h4, h5, by simpa using h6, ?_⟩⟩
    · exact Blk.set_ (w := w) h3 i (.int .i64 x)
    · rw [Array.toList_setIfInBounds, List.length_set, List.take_set, h7, List.map_set]

def MarkedI (w : World) (base : Nat) (v : Value) (k n : Nat) (e : Ending) (w' : World) : Prop := e = .returned (.int .i64 ((k + n : Nat) : Int)) ∧ NumRow w' base v (marks k n) ∧ w.grownBy w' v.ownBlock

theorem grown_refl (w : World) (row : Option Nat) : w.grownBy w row := ⟨rfl, rfl, rfl, Nat.le_refl _, fun _ _ _ => rfl⟩
theorem grown_set {w w' : World} {row : Option Nat} (h : w.grownBy w' row) (p : Addr) (hp : row = some p.block) (u : Value) : w.grownBy (w'.setCell p u) row :=
  ⟨h.os, h.tape, h.output, by simpa [World.setCell] using h.size, fun i hi hne => (Below.heap_setCell w' p u i (by rintro rfl; exact hne hp.symm)).trans (h.block i hi hne)⟩

set_option maxHeartbeats 1000000 in
theorem markI_any (w : World) (base : Nat) (v : Value) (l : List Int) (k : Nat) (h : NumRow w base v l) (hl : l.length ≤ 2000000) (hk : k ≤ 100000000) :
    Calls Try.prog 43 #[v, .int .i64 k] w (MarkedI w base v k l.length) := by
  by_cases h0 : l = []
  · subst h0
    have H := Lib.hid h
    obtain ⟨_, ⟨rfl, _⟩ | ⟨g, cap, cur, rfl, _⟩⟩ := h
    · go_enter Try.func43, Try.ntmps43
      go_wp2_with fail
      go_loopw [1, 5] (fun q i wr => i = .int .i64 0 ∧ q = .int .i64 k ∧ wr = w) (fun _ _ _ => 0)
      case atStart => exact ⟨rfl, rfl, rfl⟩
      case round =>
        obtain ⟨rfl, rfl, rfl⟩ := hrel
        go_wp2_with fail
        go_ret
        exact ⟨rfl, H.out, grown_refl _ _⟩
    · go_enter Try.func43, Try.ntmps43
      go_wp2_with fail
      go_loopw [1, 5] (fun q i wr => i = .int .i64 0 ∧ q = .int .i64 k ∧ wr = w) (fun _ _ _ => 0)
      case atStart => exact ⟨rfl, rfl, rfl⟩
      case round =>
        obtain ⟨rfl, rfl, rfl⟩ := hrel
        go_wp2_with fail
        go_ret
        exact ⟨rfl, H.out, grown_refl _ _⟩
  · have hp : 0 < l.length := List.length_pos_iff.2 h0
    obtain ⟨g, cap, rfl⟩ := own_some h hp
    have H := Lib.hid h
    clear h h0
    go_enter Try.func43, Try.ntmps43
    go_wp2_with fail
    go_loopw [1, 5] (fun q i wr => ∃ j : Nat, j ≤ l.length ∧ i = .int .i64 j ∧ q = .int .i64 ((k + j : Nat) : Int) ∧ NumRow wr base (.slice (some ⟨g, 0, none⟩) l.length cap) (mk_ l k j) ∧ w.grownBy wr (some g)) (fun _ i _ => l.length - (intOf i).toNat)
    case atStart => exact ⟨0, by omega, rfl, rfl, by rw [mk_zero]; exact H.out, grown_refl _ _⟩
    case round =>
      obtain ⟨j, hj, rfl, rfl, hn, hg⟩ := hrel
      have HN := Lib.hid hn
      have HG := Lib.hid hg
      by_cases hlt : j < l.length
      · have hlen := mk_len l k j hj
        obtain ⟨a, c, ha, hia⟩ : ∃ (y : Int) (f : Bool), wr.cell? ⟨g, j, none⟩ = some (.int .i64 y) ∧ wr.frozen? ⟨g, j, none⟩ = false := by
          obtain ⟨hl', ⟨h1, _⟩ | ⟨g', cap', cur, h1, h2, h3, h4, h5, h6, h7⟩⟩ := hn
          · simp at h1
          · simp only [Value.slice.injEq, Option.some.injEq, Addr.mk.injEq, and_true] at h1
            obtain ⟨rfl, _, rfl⟩ := h1
            have hc := World.ownsRow.cells HN.out (g := g) rfl j (.int .i64 ((mk_ l k j)[j]'(by omega))) (by rw [List.getElem?_map, List.getElem?_eq_getElem (by omega)]; rfl)
            rw [addr0] at hc
            exact ⟨_, true, hc, Blk.frozen (w := wr) h3 j⟩
        have HS := Lib.hid (HN.out.set_ j ((k + j : Nat) : Int))
        have HM := Lib.hid (mk_succ l k j hlt)
        have HG2 := Lib.hid (grown_set HG.out ⟨g, j, none⟩ rfl (.int .i64 ((k + j : Nat) : Int)))
        clear hn hg hlen
        go_wp2_with fail
        go_roundw
        case rel => exact ⟨j + 1, by omega, by go_num, by go_num, by rw [← HM.out]; exact HS.out, HG2.out⟩
        case measure => simp [intOf]; omega
      · obtain rfl : j = l.length := by omega
        clear hn hg
        go_wp2_with fail
        go_ret
        exact ⟨rfl, by have h := HN.out; rw [mk_all] at h; exact h, HG.out⟩

theorem heldI_any (w : World) (base : Nat) (v : Value) (k n : Nat) (h : NumRow w base v (marks k n)) (hn : n ≤ 1000000) (hk : k ≤ 100000000) :
    Calls Try.prog 44 #[v, .int .i64 k] w fun e w' => e = .returned (.int .i64 ((k + n : Nat) : Int)) ∧ w = w' := by
  obtain ⟨a, c, rfl, hia⟩ := h.at (fun x hx => by
    obtain ⟨i, hi, rfl⟩ := List.mem_map.1 hx
    have := List.mem_range.1 hi
    unfold i64ok; omega)
  rw [marks_len]
  have H := Lib.hid hia
  clear h hia
  go_enter Try.func44, Try.ntmps44
  go_wp2_with fail
  go_loop [1, 5] (fun q i => ∃ j : Nat, j ≤ n ∧ i = .int .i64 j ∧ q = .int .i64 ((k + j : Nat) : Int)) (fun _ i => n - (intOf i).toNat)
  case atStart => exact ⟨0, by omega, rfl, rfl⟩
  case round =>
    obtain ⟨j, hj, rfl, rfl⟩ := hrel
    by_cases hlt : j < n
    · obtain ⟨b, o, rfl, _, _, hc⟩ := H.out.get (Below.refl _ _) (show j < (marks k n).length by rw [marks_len]; exact hlt)
      rw [marks_get] at hc
      have hne : (((k + j : Nat) : Int) != ((k + j : Nat) : Int)) = false := by simp
      go_wp2_with fail
      go_round
      case rel => exact ⟨j + 1, by omega, by go_num, by go_num⟩
      case measure => simp [intOf]; omega
    · obtain rfl : j = n := by omega
      go_wp2_with fail
      go_ret
      exact ⟨rfl, rfl⟩
end Go.Proofs.Ytklmpagpkeffjaa
