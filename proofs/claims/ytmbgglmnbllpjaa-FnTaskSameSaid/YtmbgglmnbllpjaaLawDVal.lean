/- a value hangs on what is fetched alone; the walk of laws.FnTaskValue -/
import Derived.Test.YtmbgglmnbllpjaaLawDFet
import Derived.Test.YtmbgglmnbllpjaaBs1
import Derived.StillTailTactics
namespace Go.Proofs.Ytmbgglmnbllpjaa
open Go.RowKit

theorem FetAt.lim {vs : Int → Int} {w : World} {S : Nat → Prop} {ks : List Int} {a : Option Addr} {c : Nat} (h : FetAt vs w S ks a c) : FetAt vs w (fun b => S b ∧ b < w.heap.size) ks a c := by
  obtain ⟨h1, h2, h4⟩ := h
  refine ⟨h1, h2, ?_⟩
  rcases h4 with h4 | ⟨b, o, ha, hb, hc⟩
  · exact .inl h4
  · by_cases hl : ks = []
    · exact .inl hl
    · exact .inr ⟨b, o, ha, ⟨hb, cell_lt (hc 0 (List.length_pos_iff.2 hl)).1⟩, hc⟩

theorem val_agree (vs vs' : Int → Int) : ∀ t : T, t.fit = true → (∀ k ∈ t.kys vs, vs' k = vs k) → t.val vs' = t.val vs ∧ t.kys vs' = t.kys vs := T.ind fun k n ps ih hf => by
  generalize ht : T.mk k n ps = t at hf ⊢
  refine T.cases_fit (P := fun t => (∀ k ∈ t.kys vs, vs' k = vs k) → t.val vs' = t.val vs ∧ t.kys vs' = t.kys vs) t hf ?_ ?_ ?_ ?_ ?_ ?_
  · rintro n a0 a1 rfl _; simp only [val_0, kys_0]; exact ⟨trivial, trivial⟩
  · rintro n a0 a1 rfl h; rw [kys_1] at h; simp only [val_1, kys_1]; exact ⟨h n (by simp), trivial⟩
  · rintro a b ha hb rfl h; injection ht with _ _ hps; subst hps; rw [kys_2] at h
    obtain ⟨h1, h2⟩ := ih a (by simp) ha (fun k hk => h k (by simp [hk]))
    obtain ⟨h3, h4⟩ := ih b (by simp) hb (fun k hk => h k (by simp [hk]))
    simp only [val_2, kys_2, h1, h2, h3, h4]; exact ⟨trivial, trivial⟩
  · rintro a b ha hb rfl h; injection ht with _ _ hps; subst hps; rw [kys_3] at h
    obtain ⟨h1, h2⟩ := ih a (by simp) ha (fun k hk => h k (by simp [hk]))
    obtain ⟨h3, h4⟩ := ih b (by simp) hb (fun k hk => h k (by simp [hk]))
    simp only [val_3, kys_3, h1, h2, h3, h4]; exact ⟨trivial, trivial⟩
  · rintro a b c ha hb hc rfl h; injection ht with _ _ hps; subst hps; rw [kys_4] at h
    obtain ⟨h1, h2⟩ := ih a (by simp) ha (fun k hk => h k (by simp [hk]))
    by_cases h0 : a.val vs = 0
    · rw [if_pos h0] at h
      obtain ⟨h3, h4⟩ := ih c (by simp) hc (fun k hk => h k (by simp [hk]))
      simp only [val_4, kys_4, h1, h2, h3, h4, if_pos h0]; exact ⟨trivial, trivial⟩
    · rw [if_neg h0] at h
      obtain ⟨h3, h4⟩ := ih b (by simp) hb (fun k hk => h k (by simp [hk]))
      simp only [val_4, kys_4, h1, h2, h3, h4, if_neg h0]; exact ⟨trivial, trivial⟩
  · rintro n a a0 a1 ha rfl h; injection ht with _ _ hps; subst hps; rw [kys_5] at h
    obtain ⟨h1, h2⟩ := ih a (by simp) ha (fun k hk => h k (by simp [hk]))
    simp only [val_5, kys_5, h1, h2]
    exact ⟨h _ (by simp), trivial⟩

/-- The values of ten keys that are among ks, 0 of the others. -/
def lessL (vs : Int → Int) (ks : List Int) : List Int := (List.range 10).map fun (i : Nat) => if (i : Int) ∈ ks then vs i else 0
theorem lessL_len (vs : Int → Int) (ks : List Int) : (lessL vs ks).length = 10 := by simp [lessL]
theorem lessL_get (vs : Int → Int) (ks : List Int) (i : Nat) (h : i < (lessL vs ks).length) : (lessL vs ks)[i] = if (i : Int) ∈ ks then vs i else 0 := by simp [lessL]
theorem lessL_bd {vs : Int → Int} (ks : List Int) (hv : ∀ k ∈ ks, 0 ≤ vs k ∧ vs k ≤ 96) : ∀ x ∈ lessL vs ks, 0 ≤ x ∧ x ≤ 96 := by
  intro x hx
  obtain ⟨i, _, rfl⟩ := List.mem_map.1 hx
  split
  · rename_i h; exact hv _ h
  · omega
theorem lessL_ok {vs : Int → Int} {ks : List Int} (hv : ∀ k ∈ ks, 0 ≤ vs k ∧ vs k ≤ 96) : vok (lessL vs ks) = true := by
  unfold vok
  rw [lessL_len, Bool.and_eq_true, List.all_eq_true]
  refine ⟨by decide, fun x hx => ?_⟩
  have := lessL_bd ks hv x hx
  unfold vin
  exact decide_eq_true this
theorem lessL_vf {vs : Int → Int} {ks : List Int} (hk : ∀ k ∈ ks, 0 ≤ k ∧ k ≤ 9) : ∀ k ∈ ks, vf (lessL vs ks) k = vs k := by
  intro k hm
  obtain ⟨h0, h9⟩ := hk k hm
  obtain ⟨n, rfl⟩ : ∃ n : Nat, k = n := ⟨k.toNat, by omega⟩
  rw [vf_in (by rw [lessL_len]; omega), lessL_get, if_pos hm]

/-- One more is stored. -/
theorem less_step {w : World} {g : Nat} {vs : Int → Int} {ks : List Int} {kn : Nat} (h : IRow w g 10 (lessL vs ks)) (hk : kn < 10) (v : Int) (hv : v = vs kn) : IRow (w.setCell ⟨g, kn, none⟩ (.int .i64 v)) g 10 (lessL vs (ks ++ [(kn : Int)])) := by
  obtain ⟨cs, hb, hs, hc⟩ := h
  refine ⟨_, hb.set_ kn (.int .i64 v), by simp [hs], fun i hi => ?_⟩
  have hi' : i < 10 := by rwa [lessL_len] at hi
  rw [lessL_get]
  by_cases hik : i = kn
  · subst hik
    rw [if_pos (by simp), ← hv]
    simp [hs, hi']
  · have := hc i (by rw [lessL_len]; exact hi')
    rw [lessL_get] at this
    have hm : ((i : Int) ∈ ks ++ [(kn : Int)]) ↔ (i : Int) ∈ ks := by
      rw [List.mem_append, List.mem_singleton]
      constructor
      · rintro (h | h)
        · exact h
        · exfalso; omega
      · exact .inl
    rw [Array.getElem?_setIfInBounds, if_neg (fun h => hik h.symm), this]
    by_cases hmem : (i : Int) ∈ ks
    · rw [if_pos hmem, if_pos (hm.2 hmem)]
    · rw [if_neg hmem, if_neg (fun h => hmem (hm.1 h))]
theorem IRow.at {w : World} {g n : Nat} {l : List Int} (h : IRow w g n l) (hl : l.length = n) (hn : n ≤ 1000) (ho : ∀ x ∈ l, i64ok x) : IntsAt w (fun b => b = g) l (some ⟨g, 0, none⟩) n := by
  obtain ⟨cs, hb, hs, hc⟩ := h
  exact ⟨by omega, by omega, ho, .inr ⟨g, 0, rfl, rfl, fun i hi => by rw [Nat.zero_add, hb.cell i]; exact hc i hi⟩⟩

set_option maxRecDepth 100000 in
set_option maxHeartbeats 2000000 in
theorem walk_taskValue (w : World) (a : Option Addr) (n c : Nat) (h : CodeAt w a n c) :
    Calls Try.prog 4 #[.slice a n c] w fun e w' => e = .returned (.bool true) ∧ Below w.heap.size w w' := by
  have hn := h.1
  have hc := h.2.1
  have HC := Lib.hid h
  clear h
  by_cases hl : 1048576 < n
  · go_enter Try.func4, Try.ntmps4
    go_wp2_with fail
    go_ret
    exact ⟨rfl, Below.refl _ _⟩
  obtain ⟨i0, hi, hz0, hz1, hz2⟩ := info_parts infoInt
  have hmk : ∀ W, (Instr.makeSlice 28 (.int .i64 10) (.int .i64 10)).run Try.prog W = .ok (.slice (some ⟨W.heap.size, 0, none⟩) 10 10) (W.alloc (.cells (madeCells #[.int .i64 0] 10) 3)) := fun W => by
    have h := run_make_rowN (P := Try.prog) 28 3 i0 _ Try.underlying28 hi hz0 .i64 .i64 10 10 (Nat.le_refl _) (by rw [hz2]; omega) (by omega) W
    rw [hz1] at h
    exact h
  have HMK := Lib.hid hmk
  clear hmk hi hz0 hz1 hz2
  go_enter Try.func4, Try.ntmps4
  go_wp2_with fail
  refine (drawTaskValue_any _ a n c HC.out).mono ?_
  rintro e w1 ⟨t, a1, c1, l, v, rfl, hat, ok1, ok2, hm, hnr, hll, hlb, hb⟩
  obtain ⟨av, cv, rfl, hia⟩ := hnr.at (by intro x hx; have := hlb x hx; unfold i64ok; omega)
  have hsz1 := hb.size
  have HT1 := Lib.hid (hat.alloc (.cells #[.int .i64 t.k, .int .i64 t.n, .slice a1 t.ps.length c1] 25))
  have HI1 := Lib.hid (hia.alloc (.cells #[.int .i64 t.k, .int .i64 t.n, .slice a1 t.ps.length c1] 25))
  have HB1 := Lib.hid (Blk.new w1 25 #[.int .i64 t.k, .int .i64 t.n, .slice a1 t.ps.length c1])
  have HX1 := Lib.hid (hb.alloc hsz1 (.cells #[.int .i64 t.k, .int .i64 t.n, .slice a1 t.ps.length c1] 25))
  have hnl : nodesL t.ps ≤ 1048576 := by have := t.nodes_eq; omega
  obtain ⟨K, hK⟩ : ∃ K, K = fks t l := ⟨_, rfl⟩
  obtain ⟨b, hbb⟩ : ∃ b, b = (t.ok && vok l) := ⟨_, rfl⟩
  obtain ⟨v, hv⟩ : ∃ v, v = tvV t l := ⟨_, rfl⟩
  have hkb := fks_bd t l
  rw [← hK] at hkb
  have hkl := hkb.2
  have HKB := Lib.hid hkb.1
  have HK := Lib.hid (And.intro hK (And.intro hbb hv))
  have hvb : ∀ k ∈ K, 0 ≤ vf l k ∧ vf l k ≤ 96 := by
    intro k hk
    rw [hK] at hk
    unfold fks at hk
    split at hk
    · rename_i h
      simp only [Bool.and_eq_true] at h
      exact vf_bd (vok_mem h.2).2 k
    · simp at hk
  have HVB := Lib.hid hvb
  have hfin : b = true → (t.ok && vok (lessL (vf l) K)) = true ∧ tvV t (lessL (vf l) K) = v := by
    intro hb
    rw [hbb] at hb
    have hb2 := hb
    simp only [Bool.and_eq_true] at hb2
    have h1 : (t.ok && vok (lessL (vf l) K)) = true := by rw [hb2.1, lessL_ok hvb]; rfl
    refine ⟨h1, ?_⟩
    have hfn : t.fit = true ∧ t.nodes ≤ 15 := by simpa [T.ok] using hb2.1
    rw [hv]
    unfold tvV
    rw [if_pos h1, if_pos hb]
    refine (val_agree (vf l) (vf (lessL (vf l) K)) t hfn.1 (fun k hk => ?_)).1
    have hKk : K = t.kys (vf l) := by rw [hK]; unfold fks; rw [if_pos hb]
    exact lessL_vf hkb.1 k (by rw [hKk]; exact hk)
  have HFIN := Lib.hid hfin
  clear hat hb HC ok1 ok2 hnr hia hlb hK hbb hkb hv hvb hfin
  go_wp2_with fail
  refine (implValue_any t l _ _ _ a1 av c1 cv HT1.out HI1.out).mono ?_
  rintro e w2 ⟨rfl, hb⟩
  rw [← HK.out.2.1, ← HK.out.2.2]
  have hsz2 := hb.size
  simp only [World.size_alloc] at hsz2
  have HT2 := Lib.hid (HT1.out.below hb)
  have HI2 := Lib.hid (HI1.out.below hb)
  have HB2 := Lib.hid (HB1.out.below hb (by simp))
  have HX2 := Lib.hid (HX1.out.trans (hb.mono (by simp; omega)))
  clear hb HT1 HI1 HB1 HX1
  obtain ⟨x0, x1, x2, f0, f1, f2⟩ := HB2.out.three
  go_wp2_with fail
  refine (specValue_any t l _ _ _ a1 av c1 cv HT2.out hnl HI2.out).mono ?_
  rintro e w3 ⟨rfl, hb⟩
  rw [← HK.out.2.1, ← HK.out.2.2]
  have hsz3 := hb.size
  have HT3 := Lib.hid (HT2.out.below hb)
  have HI3 := Lib.hid (HI2.out.below hb)
  have HB3 := Lib.hid (HB2.out.below hb (by omega))
  have HX3 := Lib.hid (HX2.out.trans (hb.mono (by omega)))
  clear hb HT2 HI2 HB2 HX2 x0 x1 x2 f0 f1 f2
  obtain ⟨x0, x1, x2, f0, f1, f2⟩ := HB3.out.three
  have hnb : (b != b) = false := by simp
  have hnv : (v != v) = false := by simp
  go_wp2_with fail
  clear hnb hnv
  refine (implFetches_any t l _ _ _ a1 av c1 cv HT3.out HI3.out).mono ?_
  rintro e w4 hp
  obtain ⟨hb, vo, rfl, hrow⟩ := hp.split
  rw [← HK.out.1] at hrow
  rw [← HK.out.2.1]
  obtain ⟨ao, co, rfl, hfe⟩ := hrow.at
  have hsz4 := hb.size
  have HT4 := Lib.hid ((HT3.out.below hb).alloc (.cells (madeCells #[.int .i64 0] 10) 3))
  have HB4 := Lib.hid ((HB3.out.below hb (by omega)).alloc (.cells (madeCells #[.int .i64 0] 10) 3))
  have HX4 := Lib.hid ((HX3.out.trans (hb.mono (by omega))).alloc (by omega) (.cells (madeCells #[.int .i64 0] 10) 3))
  have HF4 := Lib.hid (hfe.lim.below ((Below.refl _ _).alloc (Nat.le_refl _) (.cells (madeCells #[.int .i64 0] 10) 3)))
  have HR4 := Lib.hid (show IRow (w4.alloc (.cells (madeCells #[.int .i64 0] 10) 3)) w4.heap.size 10 (lessL (vf l) []) from
    ⟨_, heap_alloc_new w4 _, by rw [size_madeCells], fun i hi => by
      have hi' : i < 10 := by rwa [lessL_len] at hi
      rw [lessL_get, if_neg (by simp)]
      rw [← Array.getElem?_toList, toList_madeCells_one, List.getElem?_replicate, if_pos hi']⟩)
  have hmk := HMK.out
  clear hb HT3 HI3 HB3 HX3 hrow hfe hp x0 x1 x2 f0 f1 f2
  go_wp2_with fail
  clear hmk
  obtain ⟨G, hG⟩ : ∃ G, G = w4.heap.size := ⟨_, rfl⟩
  obtain ⟨W, hW⟩ : ∃ W, W = w4.alloc (.cells (madeCells #[.int .i64 0] 10) 3) := ⟨_, rfl⟩
  have hws : W.heap.size = G + 1 := by rw [hW, hG]; simp
  have HG := Lib.hid hG
  rw [← hG, ← hW] at HR4
  rw [← hW] at HT4 HB4 HX4 HF4
  rw [← hG, ← hW]
  rw [← hG] at hsz4
  have HF5 := Lib.hid (show FetAt (vf l) W (fun b => b < G) K ao co from HF4.out.keep (fun b hb => by rw [hG]; exact hb.2) (fun _ _ _ => rfl))
  clear hW hG HF4
  go_loopw [12] (fun i wr => ∃ k : Nat, k ≤ K.length ∧ i = .int .i64 k ∧ IRow wr G 10 (lessL (vf l) (K.take k)) ∧ Below G W wr) (fun i _ => K.length - (intOf i).toNat)
  case atStart => exact ⟨0, by omega, rfl, HR4.out, (Below.refl W.heap.size W).mono (by omega)⟩
  case round =>
    obtain ⟨k, hk, rfl, hr, hbw⟩ := hrel
    have HRR := Lib.hid hr
    have HBW := Lib.hid hbw
    have hfw := HF5.out.keep (w' := wr) (fun _ h => h) (fun b hb _ => hbw.block b hb)
    have HFW := Lib.hid hfw
    clear hbw hfw
    by_cases hlt : k < K.length
    · obtain ⟨bb, o, rfl, hbl, hbG, e0, e1⟩ := HFW.out.get (Below.refl _ _) hlt
      have hkk := HKB.out K[k] (List.getElem_mem hlt)
      have hsn : K.take (k + 1) = K.take k ++ [K[k]] := by rw [List.take_succ_eq_append_getElem hlt]
      obtain ⟨key, hkey⟩ : ∃ key, key = K[k] := ⟨_, rfl⟩
      rw [← hkey] at e0 e1 hkk hsn
      have HSN := Lib.hid hsn
      clear hkey hsn
      obtain ⟨kn, rfl⟩ : ∃ kn : Nat, key = kn := ⟨key.toNat, by omega⟩
      obtain ⟨u, hu⟩ : ∃ u, u = vf l kn := ⟨_, rfl⟩
      rw [← hu] at e1
      obtain ⟨cs, hbk, hcs, hcl⟩ := hr
      have hf := hbk.frozen kn
      have hx : wr.cell? ⟨G, kn, none⟩ = some (cs[kn]'(by omega)) := by rw [hbk.cell kn]; simp
      obtain ⟨y, hy⟩ : ∃ y, y = cs[kn]'(by omega) := ⟨_, rfl⟩
      rw [← hy] at hx
      have HST := Lib.hid (less_step HRR.out (by omega) u hu)
      have HB' := Lib.hid (HBW.out.setCell (p := ⟨G, kn, none⟩) (Nat.le_refl _) (.int .i64 u))
      have hk10 : (kn : Int) < 10 := by omega
      have hk10' : kn < 10 := by omega
      clear hcs hcl hbk hy hu
      go_wp2_with fail
      go_still_tail 12, (by kernel_rfl)
      go_wp2_with fail
      go_roundw
      case rel => exact ⟨k + 1, by omega, by go_num, by rw [HSN.out]; exact HST.out, HB'.out.drew⟩
      case measure => simp [intOf]; omega
    · have hkk : K.take k = K := List.take_of_length_le (by omega)
      rw [hkk] at HRR
      have HTW := Lib.hid (HT4.out.keep (w' := wr) (fun _ h => h) (fun b hb _ => HBW.out.block b (by omega)))
      obtain ⟨x0, x1, x2, f0, f1, f2⟩ := (HB4.out.below HBW.out (by omega)).three
      have hvv := implValue_any t (lessL (vf l) K) wr _ _ a1 (some ⟨G, 0, none⟩) c1 10 HTW.out (HRR.out.at (lessL_len _ _) (by omega) (fun x hx => by have := lessL_bd K HVB.out x hx; unfold i64ok; omega))
      rw [lessL_len] at hvv
      have HVV := Lib.hid hvv
      have HBX := Lib.hid (HX4.out.trans (HBW.out.mono (by omega)))
      have hwr := HBW.out.size
      clear hkk hr hvv
      cases b
      · go_wp2_with fail
        refine HVV.out.mono ?_
        rintro e w6 ⟨rfl, hb⟩
        have HB6 := Lib.hid (HBX.out.trans (hb.mono (by omega)))
        clear hb
        go_wp2_with fail
        go_ret
        exact ⟨rfl, HB6.out⟩
      · go_wp2_with fail
        refine HVV.out.mono ?_
        rintro e w6 ⟨rfl, hb⟩
        rw [(HFIN.out (by first | trivial | rfl)).1, (HFIN.out (by first | trivial | rfl)).2]
        have HB6 := Lib.hid (HBX.out.trans (hb.mono (by omega)))
        have hvv : (v == v) = true := by simp
        clear hb
        go_wp2_with fail
        go_ret
        exact ⟨rfl, HB6.out⟩
end Go.Proofs.Ytmbgglmnbllpjaa
