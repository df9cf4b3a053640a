/- what is used may be; the walk of laws.FnTaskUses -/
import Derived.Test.YtmbgglmnbllpjaaLawDMay
import Derived.Test.YtmbgglmnbllpjaaDr1
import Derived.Test.YtmbgglmnbllpjaaBs2
namespace Go.Proofs.Ytmbgglmnbllpjaa
open Go.RowKit

theorem foldl_ustep_nodup : ∀ (ks acc : List Int), acc.Nodup → (ks.foldl ustep acc).Nodup
  | [], acc, h => h
  | k :: r, acc, h => by
    rw [List.foldl_cons]
    refine foldl_ustep_nodup r _ ?_
    unfold ustep
    split
    · exact h
    · rename_i hk
      rw [List.nodup_append]
      refine ⟨h, by simp, ?_⟩
      intro a ha b hb
      simp at hb
      subst hb
      intro e
      subst e
      exact hk ha
theorem usesL_nodup (ks : List Int) : (usesL ks).Nodup := foldl_ustep_nodup ks [] (by simp)
theorem nodup_take {l : List Int} (h : l.Nodup) {i : Nat} (hi : i < l.length) : ¬ l[i] ∈ l.take i := by
  intro hm
  obtain ⟨j, hj, he⟩ := List.getElem_of_mem hm
  have hj' : j < i := by rw [List.length_take] at hj; omega
  rw [List.getElem_take] at he
  exact (List.pairwise_iff_getElem.1 h j i (by omega) hi hj') he

theorem IntsAt.take {w : World} {S : Nat → Prop} {l : List Int} {a : Option Addr} {c : Nat} (h : IntsAt w S l a c) (i : Nat) : IntsAt w S (l.take i) a c := by
  obtain ⟨h1, h2, h3, h4⟩ := h
  refine ⟨by simp; omega, h2, fun v hv => h3 v (List.mem_of_mem_take hv), ?_⟩
  rcases h4 with rfl | ⟨b, o, ha, hS, hc⟩
  · exact .inl (by simp)
  · refine .inr ⟨b, o, ha, hS, fun j hj => ?_⟩
    have hj' : j < l.length := by simp at hj; omega
    rw [List.getElem_take]
    exact hc j hj'

set_option maxRecDepth 100000 in
set_option maxHeartbeats 2000000 in
theorem walk_taskUses (w : World) (a : Option Addr) (n c : Nat) (h : CodeAt w a n c) :
    Calls Try.prog 6 #[.slice a n c] w fun e w' => e = .returned (.bool true) ∧ Below w.heap.size w w' := by
  have hn := h.1
  have hc := h.2.1
  have HC := Lib.hid h
  clear h
  by_cases hl : 1048576 < n
  · go_enter Try.func6, Try.ntmps6
    go_wp2_with fail
    go_ret
    exact ⟨rfl, Below.refl _ _⟩
  go_enter Try.func6, Try.ntmps6
  go_wp2_with fail
  refine (drawTaskUses_any _ a n c HC.out).mono ?_
  rintro e w1 ⟨t, a1, c1, l, v, rfl, hat, ok1, ok2, hm, hnr, hll, hlb, hb⟩
  obtain ⟨av, cv, rfl, hia⟩ := hnr.at (by intro x hx; have := hlb x hx; unfold i64ok; omega)
  have hsz1 := hb.size
  have HT1 := Lib.hid (hat.alloc (.cells #[.int .i64 t.k, .int .i64 t.n, .slice a1 t.ps.length c1] 25))
  have HI1 := Lib.hid (hia.alloc (.cells #[.int .i64 t.k, .int .i64 t.n, .slice a1 t.ps.length c1] 25))
  have HB1 := Lib.hid (Blk.new w1 25 #[.int .i64 t.k, .int .i64 t.n, .slice a1 t.ps.length c1])
  have HX1 := Lib.hid (hb.alloc hsz1 (.cells #[.int .i64 t.k, .int .i64 t.n, .slice a1 t.ps.length c1] 25))
  have hnl : nodesL t.ps ≤ 1048576 := by have := t.nodes_eq; omega
  obtain ⟨K, hK⟩ : ∃ K, K = (if (t.ok && vok l) = true then usesL (t.kys (vf l)) else []) := ⟨_, rfl⟩
  obtain ⟨b, hbb⟩ : ∃ b, b = (t.ok && vok l) := ⟨_, rfl⟩
  have hkb : (∀ k ∈ K, 0 ≤ k ∧ k ≤ 9) ∧ K.length ≤ 15 := by
    rw [hK]; split
    · rename_i h
      have := kys_ok h
      have h2 := usesL_len (t.kys (vf l))
      exact ⟨fun k hk => this.1 k (usesL_mem.1 hk), by omega⟩
    · simp
  have hnd : K.Nodup := by
    rw [hK]; split
    · exact usesL_nodup _
    · simp
  have hin : ∀ x ∈ K, x ∈ mayO t := by
    intro x hx
    have hx9 := hkb.1 x hx
    rw [hK] at hx
    split at hx
    · rename_i h
      simp only [Bool.and_eq_true] at h
      have hfn : t.fit = true ∧ t.nodes ≤ 15 := by simpa [T.ok] using h.1
      rw [mayO_mem h.1]
      exact ⟨hx9.1, by omega, kys_may (vf l) t hfn.1 x (usesL_mem.1 hx)⟩
    · simp at hx
  have hkl := hkb.2
  have HKB := Lib.hid hkb.1
  have HK := Lib.hid (And.intro hK (And.intro hbb (And.intro hnd hin)))
  have hmb := mayO_bd t
  have HMB := Lib.hid hmb.1
  clear hat hb HC ok1 ok2 hnr hia hlb hK hbb hkb hnd hin hmb
  go_wp2_with fail
  refine (implUses_any t l _ _ _ a1 av c1 cv HT1.out HI1.out).mono ?_
  rintro e w2 ⟨hb, v, rfl, hn2⟩
  rw [← HK.out.1] at hn2
  rw [← HK.out.2.1]
  obtain ⟨a2, c2, rfl, hi2⟩ := hn2.at (fun x hx => by have := HKB.out x hx; unfold i64ok; omega)
  have hsz2 := hb.size
  simp only [World.size_alloc] at hsz2
  have HT2 := Lib.hid (HT1.out.below hb)
  have HI2 := Lib.hid (HI1.out.below hb)
  have HB2 := Lib.hid (HB1.out.below hb (by simp))
  have HX2 := Lib.hid (HX1.out.trans (hb.mono (by simp; omega)))
  have HU2 := Lib.hid hi2
  clear hb HT1 HI1 HB1 HX1 hn2 hi2
  obtain ⟨x0, x1, x2, f0, f1, f2⟩ := HB2.out.three
  go_wp2_with fail
  refine (specUses_any t l _ _ _ a1 av c1 cv HT2.out hnl HI2.out).mono ?_
  rintro e w3 ⟨hb, v, rfl, hn3⟩
  rw [← HK.out.1] at hn3
  rw [← HK.out.2.1]
  obtain ⟨a3, c3, rfl, hi3⟩ := hn3.at (fun x hx => by have := HKB.out x hx; unfold i64ok; omega)
  have hsz3 := hb.size
  have HT3 := Lib.hid (HT2.out.below hb)
  have HB3 := Lib.hid (HB2.out.below hb (by omega))
  have HX3 := Lib.hid (HX2.out.trans (hb.mono (by omega)))
  have HU3 := Lib.hid (HU2.out.below hb)
  have HV3 := Lib.hid hi3
  clear hb HT2 HI2 HB2 HX2 HU2 hn3 hi3 x0 x1 x2 f0 f1 f2
  go_wp2_with fail
  refine (brInts_any _ _ _ K a2 a3 c2 c3 HU3.out HV3.out).mono ?_
  rintro e w4 ⟨rfl, hb⟩
  have hsz4 := hb.size
  have HT4 := Lib.hid (HT3.out.below hb)
  have HB4 := Lib.hid (HB3.out.below hb (by omega))
  have HX4 := Lib.hid (HX3.out.trans (hb.mono (by omega)))
  have HU4 := Lib.hid (HU3.out.below hb)
  have hnb : (b != b) = false := by simp
  have hkc : K.length ≤ c2 := HU4.out.1
  have hcm : c2 ≤ 9223372036854775807 := HU4.out.2.1
  clear hb HT3 HB3 HX3 HU3 HV3
  go_wp2_with fail
  clear hnb
  go_loopw [9] (fun i wr => ∃ j : Nat, j ≤ 20 ∧ i = .int .i64 j ∧ Below w4.heap.size w4 wr) (fun i _ => 30 - (intOf i).toNat)
  case atStart => exact ⟨1, by omega, rfl, Below.refl _ _⟩
  case round =>
    obtain ⟨j, hj, rfl, hbr⟩ := hrel
    have HBR := Lib.hid hbr
    have hwr := hbr.size
    clear hbr
    by_cases hlt : j < K.length
    · obtain ⟨bb, o, rfl, hbl, _, e0⟩ := HU4.out.get HBR.out hlt
      have hnot := nodup_take HK.out.2.2.1 hlt
      obtain ⟨x, hx⟩ : ∃ x, x = K[j] := ⟨_, rfl⟩
      rw [← hx] at e0 hnot
      have hd : decide (x ∈ K.take j) = false := decide_eq_false hnot
      have hlj : (K.take j).length = j := by simp; omega
      have HQ := Lib.hid (show ∀ n, Calls Try.prog 28 #[.slice (some ⟨bb, o, none⟩) j c2, .int .i64 x] (wr.drewN n) fun e w' => e = .returned (.bool false) ∧ w' = wr.drewN n from fun n => by
        have h := brHas_any (wr.drewN n) _ (K.take j) (some ⟨bb, o, none⟩) c2 x (((HU4.out.below HBR.out).take j).drewN n)
        rw [hd, hlj] at h
        exact h.mono fun _ _ ⟨he, hw⟩ => ⟨he, hw.symm⟩)
      have hjc : j ≤ c2 := by omega
      have hjci : (j : Int) ≤ (c2 : Int) := by omega
      clear hx hnot hd hlj
      go_wp2_with fail
      go_quiet ((go_at_call 28; exact Calls.quiet_of_same (HQ.out _)))
      go_wp2_with fail
      go_roundw
      case rel => exact ⟨j + 1, by omega, by go_num, below_drewN HBR.out _⟩
      case measure => simp [intOf]; omega
    · have HTR := Lib.hid (HT4.out.below HBR.out)
      have HUR := Lib.hid (HU4.out.below HBR.out)
      have HXR := Lib.hid (HX4.out.trans (HBR.out.mono (by omega)))
      obtain ⟨x0, x1, x2, f0, f1, f2⟩ := (HB4.out.below HBR.out (by omega)).three
      go_wp2_with fail
      refine (implMay_any t _ _ a1 c1 HTR.out).mono ?_
      rintro e w7 ⟨hb, v, rfl, hn7⟩
      obtain ⟨a7, c7, rfl, hi7⟩ := hn7.at (fun x hx => by have := HMB.out x hx; unfold i64ok; omega)
      have HU7 := Lib.hid (HUR.out.below hb)
      have HJ7 := Lib.hid hi7
      have HX7 := Lib.hid (HXR.out.trans (hb.mono (by omega)))
      clear hb hn7 hi7 x0 x1 x2 f0 f1 f2
      go_wp2_with fail
      refine (brAll_any _ _ _ K (mayO t) a2 a7 c2 c7 HU7.out HJ7.out HK.out.2.2.2).mono ?_
      rintro e w8 ⟨rfl, rfl⟩
      go_wp2_with fail
      go_ret
      exact ⟨rfl, HX7.out⟩
end Go.Proofs.Ytmbgglmnbllpjaa
