/- impl.BuildAll -/
import Derived.Test.YtochgmbeomfkpaaBuildI
import Derived.Test.YtochgmbeomfkpaaAllS
import Derived.Test.YtochgmbeomfkpaaBs1
namespace Go.Proofs.Ytochgmbeomfkpaa
open Go.RowKit

theorem irow_row {w : World} {g base : Nat} {l : List Int} (h : IRow w g l.length l) (hb : base ≤ g) (hl : l.length ≤ 9223372036854775807) : NumRow w base (.slice (some ⟨g, 0, none⟩) l.length l.length) l := by
  obtain ⟨cs, h1, h2, h3⟩ := h
  refine ElRow.of_blk (f := Value.int .i64) h1 hb (List.ext_getElem (by simp [h2]) fun i hi1 hi2 => ?_) hl
  have h := h3 i (by simpa using hi2)
  obtain ⟨_, h⟩ := Array.getElem?_eq_some_iff.1 h
  simp [h]
theorem IRow.set_snoc {w : World} {g n : Nat} {l : List Int} (h : IRow w g n l) (hl : l.length < n) (x : Int) : IRow (w.setCell ⟨g, l.length, none⟩ (.int .i64 x)) g n (l ++ [x]) := by
  obtain ⟨cs, h1, h2, h3⟩ := h
  refine ⟨_, h1.set_ _ _, by simp [h2], fun i hi => ?_⟩
  rw [List.length_append, List.length_singleton] at hi
  rw [Array.getElem?_setIfInBounds]
  by_cases hil : l.length = i
  · subst hil
    rw [if_pos rfl, if_pos (by omega)]; simp
  · rw [if_neg hil, List.getElem_append_left (by omega)]
    exact h3 i (by omega)
theorem IRow.fr {D : Nat → Prop} {w w' : World} {g n : Nat} {l : List Int} (h : IRow w g n l) (hf : Fr D w w') (hD : ¬ D g) : IRow w' g n l := by
  obtain ⟨cs, h1, h2, h3⟩ := h
  exact ⟨cs, h1.fr hf hD, h2, h3⟩
theorem IRow.below {w w' : World} {g n : Nat} {l : List Int} (h : IRow w g n l) (hb : Below w.heap.size w w') : IRow w' g n l := by
  obtain ⟨cs, h1, h2, h3⟩ := h
  exact ⟨cs, h1.below hb h1.lt, h2, h3⟩
theorem IRow.lt {w : World} {g n : Nat} {l : List Int} (h : IRow w g n l) : g < w.heap.size := by obtain ⟨_, h1, _⟩ := h; exact h1.lt

set_option maxRecDepth 100000 in
set_option maxHeartbeats 4000000 in
theorem implAll_any (s : Sh) (l : List Int) (w : World) (S0 S' : Nat → Prop) (a : Option Addr) (c : Nat) (a' : Option Addr) (c' : Nat) (ai : Option Addr) (ci : Nat) (h0 : ShAt w S0 s a c a' c') (hl : IntsAt w S' l ai ci) :
    Calls Try.prog 22 #[.agg #[.slice a s.m.length c, .slice a' s.t.length c'], .slice ai l.length ci] w (BaPost s l w) := by
  obtain ⟨S, hSd⟩ : ∃ S : Nat → Prop, S = fun b => S0 b ∧ b < w.heap.size := ⟨_, rfl⟩
  have hSl : ∀ b, S b → b < w.heap.size := by rw [hSd]; exact fun b h => h.2
  have h : ShAt w S s a c a' c' := by rw [hSd]; exact h0.lim
  have HSL := Lib.hid hSl
  clear h0 hSd hSl
  have K0 := Lib.hid (Ks.start (ty := 32) h)
  have L0 := Lib.hid (hl.alloc (.cells #[.slice a s.m.length c, .slice a' s.t.length c'] 32))
  clear h hl
  obtain ⟨x0, x1⟩ := K0.out.box
  cases hin : inOk s l
  · have HNO := Lib.hid (show baB s l = false by unfold baB; rw [hin]; rfl)
    have HI := Lib.hid hin
    clear hin
    go_enter Try.func22, Try.ntmps22
    go_wp2_with fail
    refine (implInputs_any s l _ S S' a c a' c' ai ci K0.out.2 L0.out).mono ?_
    rintro e w1 ⟨rfl, hb⟩
    rw [HI.out]
    have K1 := Lib.hid (K0.out.step hb)
    clear hb x0 x1
    go_wp2_with fail
    go_ret2
    exact BaPost.no HNO.out K1.out.done (World.ownsRow_nil _ _ _ _)
  · have hok := (inOk_of hin).1
    have hll := (inOk_of hin).2.1
    have hmb : s.m.length ≤ 10 := (Sh.ok_iff.1 hok).1
    have hbb : baB s l = baTo s l s.m.length := by unfold baB; rw [hin]; rfl
    have HBB := Lib.hid hbb
    have HI := Lib.hid hin
    have HOK := Lib.hid hok
    obtain ⟨n, hn⟩ : ∃ n, n = s.m.length := ⟨_, rfl⟩
    have HN := Lib.hid hn
    have hll2 : l.length = n := by omega
    have HLL := Lib.hid hll2
    have hn10 : n ≤ 10 := by omega
    obtain ⟨i0, hi, hz0, hz1, hz2⟩ := info_parts infoInt
    have hmk := fun W => run_make_rowN (P := Try.prog) 26 3 i0 _ Try.underlying26 hi hz0 .i64 .i64 n n (Nat.le_refl _) (by rw [hz2]; omega) (by omega) W
    rw [hz1] at hmk
    clear hin hbb hok hll hn hll2 hmb
    go_enter Try.func22, Try.ntmps22
    go_wp2_with fail
    refine (implInputs_any s l _ S S' a c a' c' ai ci K0.out.2 L0.out).mono ?_
    rintro e w1 ⟨rfl, hb⟩
    rw [HI.out]
    have K1 := Lib.hid (K0.out.step hb)
    have L1 := Lib.hid (L0.out.below hb)
    clear hb x0 x1 K0 L0
    obtain ⟨x0, x1⟩ := K1.out.box
    rw [HLL.out]
    have hwlt : w.heap.size < w1.heap.size := by have := K1.out.size; omega
    go_wp2_with fail
    clear hmk
    have HC2 := Lib.hid (nodes_any' s l _ S S' a c a' c' ai ci (K1.out.2.alloc (.cells (madeCells #[.int .i64 0] n) 3)) (L1.out.alloc (.cells (madeCells #[.int .i64 0] n) 3)) HI.out)
    have hm1 : (madeCells #[Value.int IntKind.i64 0] n).size = n := by rw [size_madeCells]
    have hir : IRow (w1.alloc (.cells (madeCells #[.int .i64 0] n) 3)) w1.heap.size n [] := ⟨_, heap_alloc_new w1 _, hm1, by simp⟩
    have K2 := Lib.hid (K1.out.alloc (.cells (madeCells #[.int .i64 0] n) 3))
    have hs2 : (w1.alloc (.cells (madeCells #[.int .i64 0] n) 3)).heap.size = w1.heap.size + 1 := by simp
    obtain ⟨W, hW⟩ : ∃ W, W = w1.alloc (.cells (madeCells #[.int .i64 0] n) 3) := ⟨_, rfl⟩
    rw [← hW] at HC2 hir K2 hs2 ⊢
    rw [HLL.out] at HC2
    obtain ⟨gv, hgv⟩ : ∃ g, g = w1.heap.size := ⟨_, rfl⟩
    rw [← hgv] at hir hs2 hwlt ⊢
    have HIR := Lib.hid hir
    clear hW hm1 hir K1 L1 x0 x1 hgv
    refine HC2.out.mono ?_
    rintro e w3 ⟨g, b, rfl, hb1, hg1, hnb, hp, hnd, hb⟩
    rw [← HN.out] at hp hnd hnb ⊢
    have hS : ∀ b, (fun b => S b ∧ b < W.heap.size) b → b < g := fun b hb => by have := hb.2; omega
    have HS := Lib.hid hS
    have HP3 := Lib.hid (And.intro hp (And.intro (nds_start HOK.out hnd) (And.intro (K2.out.step hb).done (HIR.out.below hb))))
    have HNB := Lib.hid hnb
    have hs3 := hb.size
    have hgw : g + n ≤ w3.heap.size ∨ n = 0 := by
      rcases Nat.eq_zero_or_pos n with h | h
      · exact .inr h
      · obtain ⟨_, _, hl, _⟩ := hnd.node (i := n - 1) (by omega)
        exact .inl (by omega)
    have hbl : n = 0 ∨ b < w3.heap.size := by
      rcases Nat.eq_zero_or_pos n with h | h
      · exact .inl h
      · exact .inr (cell_lt (hp.cell h))
    clear HC2 hb hp hnd hS hnb HIR K2
    go_wp2_with fail
    go_loopw [20] (fun i wr => ∃ (k : Nat) (d : Int → Bool), k ≤ n ∧ i = .int .i64 k ∧ (∀ i, i < k → okS s l (i : Int) = true) ∧ (∀ q, (!s.mdI q) = true → d q = true) ∧ (∀ q, d q = true → okS s l q = true) ∧ PRow wr b g n n ∧
      Nds wr (fun b => S b ∧ b < W.heap.size) s g n (mpv s g n) (fun q => if d q = true then vsS s l q else vf l q) d ∧ Below w.heap.size w wr ∧ IRow wr gv n (baVs s l k)) (fun i _ => n - (intOf i).toNat)
    case atStart => exact ⟨0, fun k => !s.mdI k, by omega, rfl, fun i hi => by omega, fun _ h => h, fun k h => (gr_S HOK.out l).d0ok k h, HP3.out.1, HP3.out.2.1, HP3.out.2.2.1, HP3.out.2.2.2⟩
    case round =>
      obtain ⟨k, d, hk, rfl, hall, hlo, hhi, hp, hnd, hb, hir⟩ := hrel
      have H4 := Lib.hid (And.intro hall (And.intro hlo (And.intro hhi (And.intro hp (And.intro hnd (And.intro hb hir))))))
      clear HP3 hall hlo hhi hnd hb hir
      by_cases hlt : k < n
      · have hcell := hp.cell hlt
        clear hp
        go_wp2_with fail
        have hg := gr_S HOK.out l
        have hst := try_step (S := fun b => S b ∧ b < W.heap.size) (g := g) HI.out HS.out
        rw [← HN.out] at hg hst
        refine (finish_any hg hst hn10 HS.out wr d k hlt H4.out.2.1 H4.out.2.2.1 H4.out.2.2.2.2.1).mono ?_
        rintro e w4 ⟨d2, L, a4, c4, rfl, hat, hnd2, hdd, hdo, hfr, _, ⟨rfl, hdf⟩ | ⟨hne, hnok, hLc⟩⟩
        · obtain ⟨_, _, hgk, _, _, _, _, _, e14, _, _, _⟩ := hnd2.node hlt
          have e : (fun d k => if d k = true then vsS s l k else vf l k) d2 (k : Int) = vsS s l k := by simp only [hdf, if_true]
          rw [e] at e14
          obtain ⟨v, hv⟩ : ∃ v, v = vsS s l (k : Int) := ⟨_, rfl⟩
          rw [← hv] at e14
          have HV := Lib.hid hv
          have hgvn : ¬ ndB g n gv := fun h => by have := h.1; omega
          have hir4 := H4.out.2.2.2.2.2.2.fr hfr hgvn
          have hp4 := H4.out.2.2.2.1.fr hfr HNB.out
          have hb4 : Below w.heap.size w w4 := below_nd H4.out.2.2.2.2.2.1 hfr (by omega) H4.out.2.2.2.2.2.1.size
          obtain ⟨cs, hbk, hcs, _⟩ := id hir4
          have hf := hbk.frozen k
          have hx : w4.cell? ⟨gv, k, none⟩ = some (cs[k]'(by omega)) := by rw [hbk.cell k]; simp
          obtain ⟨y, hy⟩ : ∃ y, y = cs[k]'(by omega) := ⟨_, rfl⟩
          rw [← hy] at hx
          have hset := hir4.set_snoc (by rw [baVs_len]; exact hlt) v
          rw [baVs_len, hv, ← baVs_succ, ← hv] at hset
          have hfs : Fr (fun b => b = gv) w4 (w4.setCell ⟨gv, k, none⟩ (.int .i64 v)) := Fr.set' (D := fun b => b = gv) (Fr.of_below (Below.refl _ _)) ⟨gv, k, none⟩ rfl _
          have hnd5 := hnd2.fr hfs (fun b hb => by
            rintro (h | h)
            · have := HSL.out b h.1; omega
            · omega)
          have hok2 : ∀ i, i < k + 1 → okS s l (i : Int) = true := fun i hi => by
            by_cases hik : i = k
            · subst hik; exact hdo _ hdf
            · exact H4.out.1 i (by omega)
          have H5 := Lib.hid (And.intro hok2 (And.intro (fun q hq => hdd q (H4.out.2.1 q hq)) (And.intro hdo (And.intro (hp4.fr hfs (fun h => by
            have := hbk.lt
            rcases hbl with h2 | h2
            · omega
            · rw [h] at hb1; omega)) (And.intro hnd5 (And.intro (hb4.setCell (p := ⟨gv, k, none⟩) (by simp; omega) (.int .i64 v)) hset))))))
          have hgv4 : gv < w4.heap.size := hir4.lt
          clear hat hnd2 hdd hdo hfr hdf e hv hir4 hp4 hb4 hbk hcs hy hset hfs hnd5 hok2 hg hst hcell
          go_wp2_with fail
          go_roundw
          case rel => exact ⟨k + 1, d2, by omega, by go_num, H5.out.1, H5.out.2.1, H5.out.2.2.1, H5.out.2.2.2.1, H5.out.2.2.2.2.1, H5.out.2.2.2.2.2.1, H5.out.2.2.2.2.2.2⟩
          case measure => simp [intOf]; omega
        · have hb4 : Below w.heap.size w w4 := below_nd H4.out.2.2.2.2.2.1 hfr (by omega) H4.out.2.2.2.2.2.1.size
          have HB4 := Lib.hid hb4
          have HNO := Lib.hid (show baB s l = false by rw [HBB.out]; exact baTo_false (by rw [← HN.out]; exact hlt) hnok)
          have hlp2 : 0 < L.length := List.length_pos_iff.2 hne
          have hlp : decide ((0 : Int) < (L.length : Int)) = true := decide_eq_true (by omega)
          have hlp3 : decide (0 < L.length) = true := decide_eq_true hlp2
          have hLm : L.length ≤ 9223372036854775807 := by have := hat.1; have := hat.2.1; omega
          clear hat hnd2 hdd hdo hfr hnok hLc hb4 hg hst hcell hne
          go_wp2_with fail
          go_ret2
          exact BaPost.no HNO.out HB4.out (World.ownsRow_nil _ _ _ _)
      · obtain rfl : n = k := by omega
        have hbt : baTo s l n = true := by
          unfold baTo
          rw [List.all_eq_true]
          intro i hi
          exact H4.out.1 i (List.mem_range.1 hi)
        have HY := Lib.hid (show baB s l = true by rw [HBB.out, ← HN.out]; exact hbt)
        clear hbt hp
        go_wp2_with fail
        go_ret2
        refine BaPost.yes HY.out H4.out.2.2.2.2.2.1 ?_
        rw [← HN.out]
        have h := irow_row (base := w.heap.size) (show IRow wr gv (baVs s l n).length (baVs s l n) by rw [baVs_len]; exact H4.out.2.2.2.2.2.2) (by omega) (by rw [baVs_len]; omega)
        rw [baVs_len] at h
        exact h
end Go.Proofs.Ytochgmbeomfkpaa
