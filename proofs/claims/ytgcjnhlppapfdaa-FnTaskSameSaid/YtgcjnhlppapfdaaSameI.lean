/- what was fetched, as a list that is read; impl.TaskSame -/
import Derived.Test.YtgcjnhlppapfdaaFetI
namespace Go.Proofs.Ytgcjnhlppapfdaa
open Go.RowKit

/-- The slice value '.slice a ks.length c' holds what was fetched of the keys ks. -/
def FetAt (vs : Int → Int) (w : World) (S : Nat → Prop) (ks : List Int) (a : Option Addr) (c : Nat) : Prop :=
  ks.length ≤ c ∧ c ≤ 9223372036854775807 ∧ (ks = [] ∨ ∃ b o, a = some ⟨b, o, none⟩ ∧ S b ∧ ∀ i (h : i < ks.length), w.cell? ⟨b, o + i * 2, none⟩ = some (.int .i64 ks[i]) ∧ w.cell? ⟨b, o + i * 2 + 1, none⟩ = some (.int .i64 (vs ks[i])))

section
variable {vs : Int → Int} {w w' : World} {S S' : Nat → Prop} {ks : List Int} {a : Option Addr} {c : Nat}
theorem FetAt.keep (hS : ∀ b, S b → S' b) (hk : ∀ b, S b → b < w.heap.size → w'.heap[b]? = w.heap[b]?) (h : FetAt vs w S ks a c) : FetAt vs w' S' ks a c := by
  obtain ⟨h1, h2, h4⟩ := h
  refine ⟨h1, h2, ?_⟩
  rcases h4 with h4 | ⟨b, o, ha, hb, hc⟩
  · exact .inl h4
  · refine .inr ⟨b, o, ha, hS b hb, fun i hi => ?_⟩
    have := hc i hi
    have e := hk b hb (cell_lt this.1)
    exact ⟨(World.cell?_of_block (w := w) (a := ⟨b, o + i * 2, none⟩) e).trans this.1, (World.cell?_of_block (w := w) (a := ⟨b, o + i * 2 + 1, none⟩) e).trans this.2⟩
theorem FetAt.below (h : FetAt vs w S ks a c) (hb : Below w.heap.size w w') : FetAt vs w' S ks a c := h.keep (fun _ h => h) (fun b _ hl => hb.block b hl)
theorem FetAt.get (h : FetAt vs w S ks a c) (hb : Below w.heap.size w w') {i : Nat} (hi : i < ks.length) :
    ∃ b o, a = some ⟨b, o, none⟩ ∧ b < w.heap.size ∧ S b ∧ w'.cell? ⟨b, o + i * 2, none⟩ = some (.int .i64 ks[i]) ∧ w'.cell? ⟨b, o + i * 2 + 1, none⟩ = some (.int .i64 (vs ks[i])) := by
  rcases h.2.2 with rfl | ⟨b, o, ha, hS, hc⟩
  · simp at hi
  · have := hc i hi
    have hlt := cell_lt this.1
    exact ⟨b, o, ha, hlt, hS, (hb.cell (p := ⟨b, o + i * 2, none⟩) hlt).trans this.1, (hb.cell (p := ⟨b, o + i * 2 + 1, none⟩) hlt).trans this.2⟩
end

theorem fc_get (vs : Int → Int) : ∀ (l : List Int) (i : Nat) (h : i < l.length), (fc vs l)[i * 2]? = some (.int .i64 l[i]) ∧ (fc vs l)[i * 2 + 1]? = some (.int .i64 (vs l[i]))
  | [], i, h => by simp at h
  | k :: r, 0, h => by simp [fc]
  | k :: r, i + 1, h => by
    have := fc_get vs r i (by simpa using h)
    rw [show (i + 1) * 2 = i * 2 + 2 by omega]
    simpa [fc] using this

theorem FeRow.at {vs : Int → Int} {w : World} {base : Nat} {v : Value} {ks : List Int} (h : FeRow vs w base v ks) : ∃ a c, v = .slice a ks.length c ∧ FetAt vs w (fun b => base ≤ b) ks a c := by
  have h' := h
  obtain ⟨_, ⟨rfl, h0⟩ | ⟨g, cap, cur, rfl, hb, hh, hn, hc, hz, _⟩⟩ := h
  · obtain rfl : ks = [] := List.length_eq_zero_iff.1 h0
    exact ⟨none, 0, rfl, by simp, by omega, .inl rfl⟩
  · refine ⟨_, _, rfl, hn, hc, .inr ⟨g, 0, rfl, hb, fun i hi => ?_⟩⟩
    have e : ∀ j, (⟨g, 0, none⟩ : Addr).add j = ⟨g, 0 + j, none⟩ := fun j => by unfold Addr.add; split <;> simp_all
    have h1 := h'.cells (g := g) rfl (i * 2) _ (fc_get vs ks i hi).1
    have h2 := h'.cells (g := g) rfl (i * 2 + 1) _ (fc_get vs ks i hi).2
    rw [e] at h1 h2
    exact ⟨h1, h2⟩

/-- The two lists of values agree in these keys. -/
def agree (x y : List Int) (ks : List Int) : Bool := ks.all fun k => decide (vf y k = vf x k)
def tSame (t : T) (x y : List Int) : Bool := (t.ok && vok x) && (vok y && agree x y (t.kys (vf x)))

set_option maxHeartbeats 2000000 in
theorem implSame_any (t : T) (x y : List Int) (w : World) (S S' S2 : Nat → Prop) (a a' a2 : Option Addr) (c c' c2 : Nat) (hat : AtS w S t.ps a c) (hx : IntsAt w S' x a' c') (hy : IntsAt w S2 y a2 c2) :
    Calls Try.prog 36 #[.agg #[.int .i64 t.k, .int .i64 t.n, .slice a t.ps.length c], .slice a' x.length c', .slice a2 y.length c2] w fun e w' => e = .returned (.bool (tSame t x y)) ∧ Below w.heap.size w w' := by
  have K0 := Lib.hid (Kp.start (ty := 25) hat.lim)
  have L0 := Lib.hid (hx.alloc (.cells #[.int .i64 t.k, .int .i64 t.n, .slice a t.ps.length c] 25))
  have M0 := Lib.hid (hy.alloc (.cells #[.int .i64 t.k, .int .i64 t.n, .slice a t.ps.length c] 25))
  clear hat hx hy
  cases hv : (t.ok && vok x)
  · have hr : tSame t x y = false := by unfold tSame; rw [hv]; rfl
    have HV := Lib.hid hv
    rw [hr]
    clear hv hr
    go_enter Try.func36, Try.ntmps36
    go_wp2_with fail
    refine (implFetches_any t x _ _ _ a a' c c' K0.out.2 L0.out).mono ?_
    rintro e w1 ⟨hb, hm⟩
    rw [HV.out, if_neg (by decide)] at hm
    obtain ⟨vo, rfl, _⟩ := hm
    have K1 := Lib.hid (K0.out.step hb)
    clear hb K0
    go_wp2_with fail
    go_ret
    exact ⟨rfl, K1.out.done⟩
  cases hu : vok y
  · have hr : tSame t x y = false := by unfold tSame; rw [hu]; simp
    have HV := Lib.hid hv
    have HU := Lib.hid hu
    rw [hr]
    clear hv hu hr
    go_enter Try.func36, Try.ntmps36
    go_wp2_with fail
    refine (implFetches_any t x _ _ _ a a' c c' K0.out.2 L0.out).mono ?_
    rintro e w1 ⟨hb, hm⟩
    rw [HV.out, if_pos rfl] at hm
    obtain ⟨vo, rfl, _⟩ := hm
    have K1 := Lib.hid (K0.out.step hb)
    have M1 := Lib.hid (M0.out.below hb)
    clear hb K0
    go_wp2_with fail
    refine (implVals_any _ _ y a2 c2 M1.out).mono ?_
    rintro e w2 ⟨rfl, rfl⟩
    rw [HU.out]
    go_wp2_with fail
    go_ret
    exact ⟨rfl, K1.out.done⟩
  · have hr : tSame t x y = agree x y (t.kys (vf x)) := by unfold tSame; rw [hv, hu]; rfl
    have hok : t.fit = true ∧ t.nodes ≤ 15 := by
      have : t.ok = true := by simp only [Bool.and_eq_true] at hv; exact hv.1
      simpa [T.ok] using this
    have hkb := T.kys_bd (vf x) t hok.1
    have HV := Lib.hid hv
    have HU := Lib.hid hu
    have HKB := Lib.hid hkb.1
    have hkl := hkb.2
    have hn15 := hok.2
    have HR := Lib.hid hr
    obtain ⟨K, hK⟩ : ∃ K, K = t.kys (vf x) := ⟨_, rfl⟩
    rw [← hK] at HKB hkl HR
    have HK := Lib.hid hK
    clear hv hu hr hok hkb hK
    go_enter Try.func36, Try.ntmps36
    go_wp2_with fail
    refine (implFetches_any t x _ _ _ a a' c c' K0.out.2 L0.out).mono ?_
    rintro e w1 ⟨hb, hm⟩
    rw [HV.out, if_pos rfl, ← HK.out] at hm
    obtain ⟨vo, rfl, hrow⟩ := hm
    obtain ⟨a3, c3, rfl, hfe⟩ := hrow.at
    have K1 := Lib.hid (K0.out.step hb)
    have M1 := Lib.hid (M0.out.below hb)
    have HF1 := Lib.hid hfe
    clear hb K0 M0 L0 hrow hfe
    go_wp2_with fail
    refine (implVals_any _ _ y a2 c2 M1.out).mono ?_
    rintro e w2 ⟨rfl, rfl⟩
    rw [HU.out]
    go_wp2_with fail
    refine (fetchFrom_any _ _ _ _).mono ?_
    rintro e w3 ⟨rfl, rfl⟩
    have HG := Lib.hid (Blk.new w1 28 #[.slice a2 y.length c2])
    have HF := Lib.hid (HF1.out.below ((Below.refl _ _).alloc (Nat.le_refl _) (.cells #[.slice a2 y.length c2] 28)))
    have HM := Lib.hid (M1.out.alloc (.cells #[.slice a2 y.length c2] 28))
    have HX := Lib.hid (K1.out.done.alloc (by have := K1.out.done.size; omega) (.cells #[.slice a2 y.length c2] 28))
    obtain ⟨W, hW⟩ : ∃ W, W = w1.alloc (.cells #[.slice a2 y.length c2] 28) := ⟨_, rfl⟩
    have hws : w1.heap.size < W.heap.size := by rw [hW]; simp
    rw [← hW] at HG HF HM HX ⊢
    clear hW K1 M1 HF1
    go_wp2_with fail
    go_loopw [29] (fun i wr => ∃ k : Nat, k ≤ K.length ∧ i = .int .i64 k ∧ agree x y (K.take k) = true ∧ Below W.heap.size W wr) (fun i _ => K.length - (intOf i).toNat)
    case atStart => exact ⟨0, by omega, rfl, rfl, Below.refl _ _⟩
    case round =>
      obtain ⟨k, hk, rfl, hq, hb⟩ := hrel
      have HB := Lib.hid hb
      have HQ := Lib.hid hq
      clear hb hq
      by_cases hlt : k < K.length
      · obtain ⟨b, o, rfl, hbl, _, e0, e1⟩ := HF.out.get HB.out hlt
        have hkk := HKB.out K[k] (List.getElem_mem hlt)
        obtain ⟨key, hkey⟩ : ∃ key, key = K[k] := ⟨_, rfl⟩
        obtain ⟨v, hv⟩ : ∃ v, v = vf x K[k] := ⟨_, rfl⟩
        obtain ⟨u, hu⟩ : ∃ u, u = vf y K[k] := ⟨_, rfl⟩
        rw [← hkey] at e0 hkk
        rw [← hv] at e1
        have HKY := Lib.hid hkey
        have HVV := Lib.hid hv
        have HUU := Lib.hid (show u = vf y key by rw [hu, hkey])
        have HSN := Lib.hid (show agree x y (K.take (k + 1)) = (agree x y (K.take k) && decide (vf y K[k] = vf x K[k])) from all_snoc _ K k hlt)
        have HFA := Lib.hid (show decide (vf y K[k] = vf x K[k]) = false → agree x y K = false from all_false (fun k => decide (vf y k = vf x k)) K k hlt)
        have HUV := Lib.hid (show decide (u = v) = decide (vf y K[k] = vf x K[k]) by rw [hu, hv])
        clear hkey hv hu
        have HG' := Lib.hid ((HG.out.below HB.out hws).alloc (.cells #[.int .i64 key, .int .i64 v] 41))
        have HM' := Lib.hid ((HM.out.below HB.out).alloc (.cells #[.int .i64 key, .int .i64 v] 41))
        have HB' := Lib.hid (HB.out.alloc HB.out.size (.cells #[.int .i64 key, .int .i64 v] 41))
        have HQU := Lib.hid (show ∀ n, Calls Try.prog 87 #[.int .i64 key, .pointer (some ⟨w1.heap.size, 0, none⟩)] ((wr.alloc (.cells #[.int .i64 key, .int .i64 v] 41)).drewN n) fun e w' => e = .returned (.int .i64 u) ∧ w' = (wr.alloc (.cells #[.int .i64 key, .int .i64 v] 41)).drewN n from
          fun n => by
            have h := fetch_any _ _ y a2 c2 w1.heap.size (HM'.out.drewN n) (HG'.out.drewN n) key hkk.1 (by omega)
            rw [← HUU.out] at h
            exact h.mono fun _ _ ⟨he, hw⟩ => ⟨he, hw.symm⟩)
        by_cases huv : u = v
        · have hne : (u != v) = false := by simpa using huv
          go_wp2_with fail
          go_quiet ((go_at_call 87; exact Calls.quiet_of_same (HQU.out _)))
          go_wp2_with fail
          go_roundw
          case rel => exact ⟨k + 1, by omega, by go_num, by rw [HSN.out, HQ.out, ← HUV.out, decide_eq_true huv]; rfl, below_drewN HB'.out _⟩
          case measure => simp [intOf]; omega
        · have hne : (u != v) = true := by simpa using huv
          go_wp2_with fail
          go_quiet ((go_at_call 87; exact Calls.quiet_of_same (HQU.out _)))
          go_wp2_with fail
          go_ret
          exact ⟨ret_bool (by rw [HR.out, HFA.out (by rw [← HUV.out]; exact decide_eq_false huv)]), HX.out.trans ((below_drewN HB'.out _).mono HX.out.size)⟩
      · have hf : agree x y K = true := by have := HQ.out; rwa [List.take_of_length_le (by omega)] at this
        have HF' := Lib.hid hf
        clear hf
        go_wp2_with fail
        go_ret
        exact ⟨ret_bool (by rw [HR.out, HF'.out]), HX.out.trans (HB.out.mono HX.out.size)⟩
end Go.Proofs.Ytgcjnhlppapfdaa
