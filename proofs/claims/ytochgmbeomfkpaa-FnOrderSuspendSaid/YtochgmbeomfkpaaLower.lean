/- l91Lower -/
import Derived.Test.YtochgmbeomfkpaaLow
import Derived.Test.YtochgmbeomfkpaaDr1
import Derived.Deep.RegionWith
namespace Go.Proofs.Ytochgmbeomfkpaa
open Go.RowKit

/-- A task was lowered, in the blocks that it had. -/
def LowPost (w : World) (F : Nat → Prop) (t : T) (e : Ending) (w' : World) : Prop :=
  ∃ (a' : Option Addr) (c' : Nat), e = .returned (.agg #[.int .i64 t.low.k, .int .i64 t.low.n, .slice a' t.low.ps.length c']) ∧ i64ok t.low.k ∧ i64ok t.low.n ∧ OwS w' 71 F t.low.ps a' c' ∧ Fr F w w'
def LowS (t : T) : Prop := ∀ (w : World) (F : Nat → Prop) (a : Option Addr) (c : Nat) (k : Int), t.fit = true → i64ok t.k → i64ok t.n → OwS w 71 F t.ps a c → (∀ b, F b → b < w.heap.size) →
  Calls Try.prog 72 #[.agg #[.int .i64 t.k, .int .i64 t.n, .slice a t.ps.length c], .int .i64 k] w (LowPost w F t)

theorem Blk.fr' {w w' : World} {g : Nat} {t : TypeId} {cs : Array Value} {D : Nat → Prop} (h : Blk w g t cs) (hf : Fr D w w') (hg : ¬ D g) : Blk w' g t cs := (hf.2.2.2.2 g h.lt hg).trans h

set_option maxHeartbeats 2000000 in
theorem lower_of (t : T) (ih : ∀ p ∈ t.ps, LowS p) : LowS t := by
  intro w F a c k hfit ok1 ok2 how hF
  obtain ⟨t0, n, ps⟩ := t
  simp only [T.k, T.n, T.ps] at ih ok1 ok2 how ⊢
  have HIH := Lib.hid ih
  have HOK := Lib.hid (And.intro ok1 ok2)
  have HOW := Lib.hid ((how.alloc (.cells #[.int .i64 t0, .int .i64 n, .slice a ps.length c] 71)).alloc (.cells #[.int .i64 0, .int .i64 0, .slice none 0 0] 71))
  have HX := Lib.hid ((Blk.new w 71 #[.int .i64 t0, .int .i64 n, .slice a ps.length c]).alloc (.cells #[.int .i64 0, .int .i64 0, .slice none 0 0] 71))
  have HR := Lib.hid (Blk.new (w.alloc (.cells #[.int .i64 t0, .int .i64 n, .slice a ps.length c] 71)) 71 #[.int .i64 0, .int .i64 0, .slice none 0 0])
  have HF := Lib.hid hF
  have HFR := Lib.hid (show Fr F w ((w.alloc (.cells #[.int .i64 t0, .int .i64 n, .slice a ps.length c] 71)).alloc (.cells #[.int .i64 0, .int .i64 0, .slice none 0 0] 71)) from .of_below (((Below.refl _ _).alloc (Nat.le_refl _) _).alloc (by simp) _))
  clear how hF ih ok1 ok2
  by_cases h5 : t0 = 5
  · subst h5
    obtain ⟨p, rfl⟩ := fit_five hfit
    have hpf : p.fit = true := fitL_mem (ps := [p]) (by simp only [T.fit, Bool.and_eq_true] at hfit; exact hfit.2) (by simp)
    have HPF := Lib.hid hpf
    obtain ⟨g, Fi, a2, c2, rfl, hFg, hgl, hFi, ok1, ok2, z0, z1, z2, how2, _, _⟩ := HOW.out.upd3 0 (by simp)
    simp only [Nat.zero_mul, Nat.zero_add, List.getElem_cons_zero] at ok1 ok2 z0 z1 z2 how2
    have HW2 := Lib.hid how2
    have HFI := Lib.hid hFi
    have HO2 := Lib.hid (And.intro ok1 ok2)
    have hg := HF.out g hFg
    clear how2 hFi hpf hfit hFg ok1 ok2 hgl
    obtain ⟨x0, x1, x2, _, _, _⟩ := HX.out.three
    simp only [List.length_singleton] at x0 x1 x2 z0 z1 z2
    go_enter Try.func72, Try.ntmps72
    go_wp2_with fail
    refine (HIH.out p (by simp) _ Fi a2 c2 k HPF.out HO2.out.1 HO2.out.2 HW2.out (fun b hb => by have := HF.out b (HFI.out b hb).1; simp; omega)).mono ?_
    rintro e w1 ⟨a3, c3, rfl, ok3, ok4, how3, hfr⟩
    have hr1 := HR.out.fr' hfr (fun h => by have := HF.out _ (HFI.out _ h).1; simp at this; omega)
    have HR1 := Lib.hid hr1
    have HW3 := Lib.hid (And.intro how3 (And.intro ok3 ok4))
    have HF3 := Lib.hid hfr
    simp only [World.size_alloc] at hr1
    obtain ⟨y0, y1, y2, f0, f1, f2⟩ := hr1.three
    clear how3 hfr hr1 ok3 ok4 x0 x1 x2 z0 z1 z2
    go_wp2_with fail
    refine bodyPost_ret (v := .agg #[.int .i64 p.low.k, .int .i64 p.low.n, .slice a3 p.low.ps.length c3]) (by simp [results, Try.results72, go_sem, y0, y1, y2]) rfl ?_
    have hlow : (T.mk 5 n [p]).low = p.low := by simp [T.low, headLow]
    unfold LowPost
    rw [hlow]
    refine ⟨a3, c3, rfl, HW3.out.2.1, HW3.out.2.2, ?_, ?_⟩
    · exact (HW3.out.1.set3 (R := w.heap.size + 1) (fun b hb => by have := HF.out _ (HFI.out _ hb).1; omega) _ _ _).weaken (fun b hb => (HFI.out b hb).1)
    · have h1 : Fr F w w1 := HFR.out.trans HF3.out (fun b hb => .inl (HFI.out b hb).1)
      exact ⟨h1.1, h1.2.1, h1.2.2.1, by have := set3_size w1 (w.heap.size + 1) (.int .i64 p.low.k) (.int .i64 p.low.n) (.slice a3 p.low.ps.length c3); unfold set3 at this; have := h1.2.2.2.1; omega,
        fun b hb hn => (set3_heap w1 (w.heap.size + 1) (.int .i64 p.low.k) (.int .i64 p.low.n) (.slice a3 p.low.ps.length c3) b (by omega)).trans (h1.2.2.2.2 b hb hn)⟩
  · have hne : (t0 == 5) = false := by simp [h5]
    have hpf : fitL ps = true := by simp only [T.fit, Bool.and_eq_true] at hfit; exact hfit.2
    have hlow : (T.mk t0 n ps).low = .mk t0 n (lowL ps) := by simp [T.low, h5]
    have HPF := Lib.hid hpf
    have HLOW := Lib.hid hlow
    have hlm : ps.length ≤ 9223372036854775807 := by have := HOW.out.1; have := HOW.out.2.1; omega
    clear hpf hlow h5 hfit
    obtain ⟨x0, x1, x2, _, _, _⟩ := HX.out.three
    go_enter Try.func72, Try.ntmps72
    go_wp2_with fail
    go_loopw [5] (fun i wr => ∃ j : Nat, j ≤ ps.length ∧ i = .int .i64 j ∧ OwS wr 71 F (lowTo ps j) a c ∧ Fr F w wr ∧ Blk wr w.heap.size 71 #[.int .i64 t0, .int .i64 n, .slice a ps.length c] ∧ Blk wr (w.heap.size + 1) 71 #[.int .i64 0, .int .i64 0, .slice none 0 0]) (fun i _ => ps.length - (intOf i).toNat)
    case atStart => exact ⟨0, by omega, rfl, by rw [lowTo_zero]; exact HOW.out, HFR.out, HX.out, by have := HR.out; simp only [World.size_alloc] at this; exact this⟩
    case round =>
      obtain ⟨j, hj, rfl, how, hfr, hx, hr⟩ := hrel
      have HO := Lib.hid how
      have HFJ := Lib.hid hfr
      have HXJ := Lib.hid hx
      have HRJ := Lib.hid hr
      clear HX HR HOW x0 x1 x2
      obtain ⟨x0, x1, x2, _, _, _⟩ := HXJ.out.three
      by_cases hlt : j < ps.length
      · have hjl : j < (lowTo ps j).length := by rw [lowTo_len ps j hj]; exact hlt
        obtain ⟨g, Fi, a2, c2, rfl, hFg, hgl, hFi, ok1, ok2, z0, z1, z2, how2, _, hup⟩ := how.drew.upd3 j hjl
        obtain ⟨p, hp⟩ : ∃ p, p = ps[j] := ⟨_, rfl⟩
        rw [lowTo_get ps j hlt hjl, ← hp] at ok1 ok2 z0 z1 z2 how2
        have HUP := Lib.hid hup
        have HW2 := Lib.hid how2
        have HFI := Lib.hid hFi
        have HO2 := Lib.hid (And.intro ok1 ok2)
        have hpf : p.fit = true := by rw [hp]; exact fitL_mem HPF.out (List.getElem_mem hlt)
        have hmem : p ∈ ps := by rw [hp]; exact List.getElem_mem hlt
        have hstep : (lowTo ps j).set j p.low = lowTo ps (j + 1) := by rw [hp]; exact lowTo_step ps j hlt
        have HPJ := Lib.hid hpf
        have HMEM := Lib.hid hmem
        have HST := Lib.hid hstep
        have hg := HF.out g hFg
        have HFG := Lib.hid hFg
        have hgw : g ≠ w.heap.size := by omega
        have hgw1 : g ≠ w.heap.size + 1 := by omega
        have HG := Lib.hid hgw
        have HG1 := Lib.hid hgw1
        clear how hup how2 hFi ok1 ok2 hfr hx hr hp hpf hmem hstep hjl hFg hgl hgw hgw1
        go_wp2_with fail
        go_region_with (go_at_call 72; refine (HIH.out p HMEM.out wr.drew Fi a2 c2 k HPJ.out HO2.out.1 HO2.out.2 HW2.out ?_).mono ?_; exact (fun b hb => by have := HF.out b (HFI.out b hb).1; have := HFJ.out.2.2.2.1; simp; omega); rintro e w2 ⟨a3, c3, rfl, ok3, ok4, how3, hfr3⟩; obtain ⟨how4, hfz, u0, u1, u2, v0, v1, v2⟩ := HUP.out w2 p.low a3 c3 hfr3 ok3 ok4 how3; have f0 := hfz (j * 3); have f1 := hfz (j * 3 + 1); have f2 := hfz (j * 3 + 2); obtain ⟨q0, q1, q2, _, _, _⟩ := (HXJ.out.drew.fr' hfr3 (fun h => by have := HF.out _ (HFI.out _ h).1; omega)).three)
        all_goals
          rw [HST.out] at how4
          have hX : Blk w2 w.heap.size 71 #[.int .i64 t0, .int .i64 n, .slice (some ⟨g, 0, none⟩) ps.length c] := HXJ.out.drew.fr' hfr3 (fun h => by have := HF.out _ (HFI.out _ h).1; omega)
          have hR : Blk w2 (w.heap.size + 1) 71 #[.int .i64 0, .int .i64 0, .slice none 0 0] := HRJ.out.drew.fr' hfr3 (fun h => by have := HF.out _ (HFI.out _ h).1; omega)
          have H4 := Lib.hid how4
          have H5 := Lib.hid (show Blk (put3 w2 g (j * 3) (.int .i64 p.low.k) (.int .i64 p.low.n) (.slice a3 p.low.ps.length c3)) w.heap.size 71 #[.int .i64 t0, .int .i64 n, .slice (some ⟨g, 0, none⟩) ps.length c] from (put3_heap _ _ _ _ _ _ _ (Ne.symm HG.out)).trans hX)
          have H6 := Lib.hid (show Blk (put3 w2 g (j * 3) (.int .i64 p.low.k) (.int .i64 p.low.n) (.slice a3 p.low.ps.length c3)) (w.heap.size + 1) 71 #[.int .i64 0, .int .i64 0, .slice none 0 0] from (put3_heap _ _ _ _ _ _ _ (Ne.symm HG1.out)).trans hR)
          have H7 := Lib.hid (put3_fr ((HFJ.out.trans (Fr.of_below (D := F) ((Below.refl wr.heap.size wr).drew)) (fun b hb => .inl hb)).trans hfr3 (fun b hb => .inl (HFI.out b hb).1)) g (j * 3) HFG.out (.int .i64 p.low.k) (.int .i64 p.low.n) (.slice a3 p.low.ps.length c3))
          clear how4 hfz u0 u1 u2 v0 v1 v2 f0 f1 f2 q0 q1 q2 hX hR hfr3 how3 ok3 ok4 x0 x1 x2 z0 z1 z2
          go_wp2_with fail
          go_roundw
          case rel => exact ⟨j + 1, by omega, by go_num, H4.out, H7.out, H5.out, H6.out⟩
          case measure => simp [intOf]; omega
      · obtain rfl : j = ps.length := by omega
        clear how hfr hx hr
        obtain ⟨y0, y1, y2, f0, f1, f2⟩ := HRJ.out.three
        go_wp2_with fail
        refine bodyPost_ret (v := .agg #[.int .i64 t0, .int .i64 n, .slice a ps.length c]) (by simp [results, Try.results72, go_sem, y0, y1, y2]) rfl ?_
        unfold LowPost
        rw [HLOW.out]
        have hll : (lowL ps).length = ps.length := by rw [lowL_map]; simp
        have ho := HO.out
        rw [lowTo_all] at ho
        refine ⟨a, c, by simp only [T.k, T.n, T.ps, hll], HOK.out.1, HOK.out.2, ?_, ?_⟩
        · exact ho.set3 (R := w.heap.size + 1) (fun b hb => by have := HF.out _ hb; omega) _ _ _
        · have h1 := HFJ.out
          exact ⟨h1.1, h1.2.1, h1.2.2.1, by have := set3_size wr (w.heap.size + 1) (.int .i64 t0) (.int .i64 n) (.slice a ps.length c); unfold set3 at this; have := h1.2.2.2.1; omega,
            fun b hb hn => (set3_heap wr (w.heap.size + 1) (.int .i64 t0) (.int .i64 n) (.slice a ps.length c) b (by omega)).trans (h1.2.2.2.2 b hb hn)⟩

theorem lower_to : ∀ (m : Nat) (t : T), t.nodes ≤ m → LowS t
  | 0, t, h => by have := t.nodes_pos; omega
  | m + 1, t, h => lower_of t fun p hp => lower_to m p (by
      have h1 := nodes_mem hp
      have h2 := t.nodes_eq
      omega)
/-- l91Lower. -/
theorem lower_any (t : T) : LowS t := lower_to t.nodes t (Nat.le_refl _)
end Go.Proofs.Ytochgmbeomfkpaa
