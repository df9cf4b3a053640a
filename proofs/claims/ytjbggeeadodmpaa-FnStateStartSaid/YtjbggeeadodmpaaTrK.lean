/- values as a trace used them: spec.l5Back, impl.isTraceOf -/
import Derived.Test.YtjbggeeadodmpaaTrJ
import Derived.Test.YtjbggeeadodmpaaTrG
import Derived.StillTailTactics
namespace Go.Proofs.Ytjbggeeadodmpaa
open Go.RowKit

/-- Ten values, as a trace used them, and 0 for all others. -/
def backF (l : List (Int × Int)) : List Int := l.foldl (fun acc p => acc.set p.1.toNat p.2) (List.replicate 10 0)
theorem backF_snoc {l : List (Int × Int)} {k : Nat} (h : k < l.length) : backF (l.take (k + 1)) = (backF (l.take k)).set l[k].1.toNat l[k].2 := by
  unfold backF; rw [List.take_succ_eq_append_getElem h, List.foldl_append]; rfl
theorem foldl_back_len : ∀ (l : List (Int × Int)) (acc : List Int), (l.foldl (fun acc p => acc.set p.1.toNat p.2) acc).length = acc.length
  | [], _ => rfl
  | p :: r, acc => by rw [List.foldl_cons, foldl_back_len r]; simp
theorem backF_len (l : List (Int × Int)) : (backF l).length = 10 := by unfold backF; rw [foldl_back_len]; simp
theorem foldl_back_mem : ∀ (l : List (Int × Int)) (acc : List Int), (∀ p ∈ l, 0 ≤ p.2 ∧ p.2 ≤ 96) → (∀ x ∈ acc, 0 ≤ x ∧ x ≤ 96) → ∀ x ∈ l.foldl (fun acc p => acc.set p.1.toNat p.2) acc, 0 ≤ x ∧ x ≤ 96
  | [], _, _, h => h
  | p :: r, acc, hl, h => by
    rw [List.foldl_cons]
    refine foldl_back_mem r _ (fun q hq => hl q (by simp [hq])) (fun x hx => ?_)
    rcases List.mem_or_eq_of_mem_set hx with hx | rfl
    · exact h x hx
    · exact hl p (by simp)
theorem backF_mem {l : List (Int × Int)} (h : ∀ p ∈ l, 0 ≤ p.2 ∧ p.2 ≤ 96) : ∀ x ∈ backF l, 0 ≤ x ∧ x ≤ 96 :=
  foldl_back_mem l _ h (fun x hx => by rw [List.eq_of_mem_replicate hx]; omega)
theorem backF_vok {l : List (Int × Int)} (h : ∀ p ∈ l, 0 ≤ p.2 ∧ p.2 ≤ 96) : vok (backF l) = true := by
  unfold vok
  rw [backF_len, decide_eq_true (by omega), Bool.true_and, List.all_eq_true]
  intro x hx
  have := backF_mem h x hx
  unfold vin
  exact decide_eq_true this
theorem ok_mem {l : List Int} (h : ∀ x ∈ l, 0 ≤ x ∧ x ≤ 96) : ∀ x ∈ l, i64ok x := fun x hx => by have := h x hx; unfold i64ok; omega

theorem num_made (w : World) : NumRow (w.alloc (.cells (madeCells #[.int .i64 0] 10) 3)) w.heap.size (.slice (some ⟨w.heap.size, 0, none⟩) 10 10) (List.replicate 10 0) :=
  ⟨by simp, .inr ⟨w.heap.size, 10, _, rfl, Nat.le_refl _, heap_alloc_new w _, by simp, by decide, by simp [size_madeCells], by
    refine List.ext_getElem (by simp [size_madeCells]) fun i h1 h2 => ?_
    have h2' : i < 10 := by simpa using h2
    have key : (madeCells #[Value.int IntKind.i64 0] 10)[i]? = some (.int .i64 0) := by
      have hm := Nat.mod_one i
      simp [madeCells, h2', hm]
    obtain ⟨hx, he⟩ := Array.getElem?_eq_some_iff.1 key
    rw [List.getElem_map, List.getElem_replicate, List.getElem_take, Array.getElem_toList, he]⟩⟩

theorem NumRow.cellX {w : World} {base g n cap : Nat} {l : List Int} (h : NumRow w base (.slice (some ⟨g, 0, none⟩) n cap) l) (i : Nat) (hi : i < l.length) :
    w.cell? ⟨g, i, none⟩ = some (.int .i64 l[i]) ∧ w.frozen? ⟨g, i, none⟩ = false := by
  have hc := World.ownsRow.cells h (g := g) rfl i (.int .i64 l[i]) (by rw [List.getElem?_map, List.getElem?_eq_getElem hi]; rfl)
  rw [addr0'] at hc
  obtain ⟨hl, ⟨h1, _⟩ | ⟨g', cap', cur, h1, h2, h3, h4, h5, h6, h7⟩⟩ := h
  · simp at h1
  · simp only [Value.slice.injEq, Option.some.injEq, Addr.mk.injEq, and_true] at h1
    obtain ⟨rfl, _, rfl⟩ := h1
    exact ⟨hc, Blk.frozen (w := w) h3 i⟩

set_option maxRecDepth 100000 in
set_option maxHeartbeats 4000000 in
theorem l5Back_any (w : World) (S : Nat → Prop) (t : Tr) (a : Option Addr) (c : Nat) (h : PrsAt w S t.u a c) (hok : ∀ p ∈ t.u, (0 ≤ p.1 ∧ p.1 ≤ 9) ∧ (0 ≤ p.2 ∧ p.2 ≤ 96)) :
    Calls Try.prog 31 #[.agg #[.int .i64 t.k, .slice a t.u.length c, .int .i64 t.v]] w fun e w' => ∃ v, e = .returned v ∧ NumRow w' w.heap.size v (backF t.u) ∧ Below w.heap.size w w' := by
  obtain ⟨tk, l, tv⟩ := t
  simp only at *
  have hll : l.length ≤ 9223372036854775807 := RwAt.len h
  have HOK := Lib.hid hok
  obtain ⟨i0, hi, hz0, hz1, hz2⟩ := info_parts infoInt
  have hmk : ∀ W : World, (Instr.makeSlice 26 (.int .i64 10) (.int .i64 10)).run Try.prog W = .ok (.slice (some ⟨W.heap.size, 0, none⟩) 10 10) (W.alloc (.cells (madeCells #[.int .i64 0] 10) 3)) := fun W => by
    have h := run_make_rowN (P := Try.prog) 26 3 i0 _ Try.underlying26 hi hz0 .i64 .i64 10 10 (Nat.le_refl _) (by rw [hz2]; omega) (by omega) W
    rw [hz1] at h
    exact h
  have K0 := Lib.hid (Kt.start (t := ⟨tk, l, tv⟩) (ty := 25) h.lim)
  obtain ⟨W, hW⟩ : ∃ W, W = (w.alloc (.cells #[.int .i64 tk, .slice a l.length c, .int .i64 tv] 25)).alloc (.cells (madeCells #[.int .i64 0] 10) 3) := ⟨_, rfl⟩
  have K1 := Lib.hid (K0.out.alloc (.cells (madeCells #[.int .i64 0] 10) 3))
  have N1 := Lib.hid (show NumRow W (w.heap.size + 1) (.slice (some ⟨w.heap.size + 1, 0, none⟩) 10 10) (backF (l.take 0)) by
    have := num_made (w.alloc (.cells #[.int .i64 tk, .slice a l.length c, .int .i64 tv] 25))
    rw [show backF (l.take 0) = List.replicate 10 0 from rfl, hW]; simpa using this)
  have HWW := Lib.hid hW
  rw [← hW] at K1
  have hWs : W.heap.size = w.heap.size + 1 + 1 := by rw [hW]; simp
  have HWS := Lib.hid hWs
  clear h hok hW hWs
  go_enter Try.func31, Try.ntmps31
  go_wp2_with fail
  clear hmk
  rw [← HWW.out]
  go_loopw [4] (fun i wr => ∃ k : Nat, k ≤ l.length ∧ i = .int .i64 k ∧ NumRow wr (w.heap.size + 1) (.slice (some ⟨w.heap.size + 1, 0, none⟩) 10 10) (backF (l.take k)) ∧ Fr (fun b => b = w.heap.size + 1) W wr) (fun i _ => l.length - (intOf i).toNat)
  case atStart => exact ⟨0, by omega, rfl, N1.out, Fr.of_below (Below.refl _ _)⟩
  case round =>
    obtain ⟨k, hk, rfl, hn, hf⟩ := hrel
    have HN := Lib.hid hn
    have HF := Lib.hid hf
    have k2 : Kt (fun b => S b ∧ b < w.heap.size) ⟨tk, l, tv⟩ a c 25 w wr := K1.out.fr hf (fun b hb => by omega) (fun b hb => hb.2)
    obtain ⟨x0, x1, x2⟩ := k2.box
    simp only at x0 x1 x2
    have HPR := Lib.hid k2.2
    have HD := Lib.hid k2.done
    clear hn hf k2
    by_cases hlt : k < l.length
    · obtain ⟨b, o, rfl, hbl, hSb, e0, e1, _, _⟩ := PrsAt.get (l := l) HPR.out (Below.refl _ _) hlt
      have hpk := HOK.out l[k] (List.getElem_mem hlt)
      have HBS := Lib.hid (backF_snoc hlt)
      obtain ⟨p, hp⟩ : ∃ p, p = l[k] := ⟨_, rfl⟩
      rw [← hp] at e0 e1 HBS hpk
      obtain ⟨p1, p2⟩ := p
      simp only at e0 e1 HBS hpk
      obtain ⟨⟨h0, h9⟩, _, _⟩ := hpk
      obtain ⟨q, rfl⟩ : ∃ q : Nat, p1 = q := ⟨p1.toNat, by omega⟩
      rw [Int.toNat_natCast] at HBS
      have hq : q < 10 := by omega
      have hqi : (q : Int) < 10 := by omega
      have hbl10 := backF_len (l.take k)
      obtain ⟨c0, f0⟩ := HN.out.cellX q (by rw [hbl10]; exact hq)
      obtain ⟨y, hy⟩ : ∃ y, y = (backF (l.take k))[q]'(by rw [hbl10]; exact hq) := ⟨_, rfl⟩
      rw [← hy] at c0
      have HS := Lib.hid (show NumRow (wr.setCell ⟨w.heap.size + 1, q, none⟩ (.int .i64 p2)).drew (w.heap.size + 1) (.slice (some ⟨w.heap.size + 1, 0, none⟩) 10 10) (backF (l.take (k + 1))) by
        have := NumRow.set_ (g := w.heap.size + 1) (n := 10) (cap := 10) (by have := HN.out; exact this) q p2
        rw [← HBS.out] at this
        exact NumRow.drew this)
      have HF2 := Lib.hid (show Fr (fun b => b = w.heap.size + 1) W (wr.setCell ⟨w.heap.size + 1, q, none⟩ (.int .i64 p2)).drew from (HF.out.set' ⟨w.heap.size + 1, q, none⟩ rfl _).trans (Fr.of_below (D := fun b => b = w.heap.size + 1) (Below.refl _ _).drew) (fun b hb => .inl hb))
      clear hp hbl10 hy h0 h9
      go_wp2_with fail
      go_still_tail 14, (by kernel_rfl)
      go_wp2_with fail
      go_roundw
      case rel => exact ⟨k + 1, by omega, by go_num, HS.out, HF2.out⟩
      case measure => simp [intOf]; omega
    · have hq := HN.out
      rw [List.take_of_length_le (by omega)] at hq
      have HQ := Lib.hid (ownsRow_low hq (show w.heap.size ≤ w.heap.size + 1 by omega))
      clear hq
      go_wp2_with fail
      go_ret
      exact ⟨_, rfl, HQ.out, HD.out⟩
end Go.Proofs.Ytjbggeeadodmpaa
