/- brFetches; the walks of laws.FnTaskFetches -/
import Derived.Test.YtmbgglmnbllpjaaDr1
import Derived.Test.YtmbgglmnbllpjaaBs2
import Derived.Test.YtmbgglmnbllpjaaBs0
import Derived.Laws.StructEq
namespace Go.Proofs.Ytmbgglmnbllpjaa
open Go.RowKit

/-- What is fetched, none if there is no value. -/
def fks (t : T) (lv : List Int) : List Int := if (t.ok && vok lv) = true then t.kys (vf lv) else []
theorem fks_bd (t : T) (lv : List Int) : (∀ k ∈ fks t lv, 0 ≤ k ∧ k ≤ 9) ∧ (fks t lv).length ≤ 15 := by
  unfold fks
  split
  · rename_i h
    simp only [Bool.and_eq_true] at h
    have hfn : t.fit = true ∧ t.nodes ≤ 15 := by simpa [T.ok] using h.1
    have := T.kys_bd (vf lv) t hfn.1
    exact ⟨this.1, by omega⟩
  · simp
theorem FetPost.split {t : T} {lv : List Int} {w0 w' : World} {e : Ending} (h : FetPost t lv w0 e w') : Below w0.heap.size w0 w' ∧ ∃ vo, e = .returned (.tuple #[vo, .bool (t.ok && vok lv)]) ∧ FeRow (vf lv) w' w0.heap.size vo (fks t lv) := by
  obtain ⟨h1, h2⟩ := h
  refine ⟨h1, ?_⟩
  unfold fks
  cases hb : (t.ok && vok lv)
  · rw [hb, if_neg (by decide)] at h2; rw [if_neg (by decide)]; exact h2
  · rw [hb, if_pos rfl] at h2; rw [if_pos rfl]; exact h2

/-- brFetches of two readings of what was fetched -/
theorem brFet_any (vs : Int → Int) (w : World) (S S' : Nat → Prop) (ks : List Int) (a a' : Option Addr) (c c' : Nat) (h : FetAt vs w S ks a c) (h' : FetAt vs w S' ks a' c') :
    Calls Try.prog 25 #[.slice a ks.length c, .slice a' ks.length c'] w fun e w' => e = .returned (.bool true) ∧ Below w.heap.size w w' := by
  have hlen : ks.length ≤ 9223372036854775807 := by have := h.1; have := h.2.1; omega
  have H := Lib.hid h
  have H' := Lib.hid h'
  clear h h'
  have hne : (((ks.length : Nat) : Int) != ((ks.length : Nat) : Int)) = false := by simp
  go_enter Try.func25, Try.ntmps25
  go_wp2_with fail
  clear hne
  go_loopw [5] (fun i wr => ∃ k : Nat, k ≤ ks.length ∧ i = .int .i64 k ∧ Below w.heap.size w wr) (fun i _ => ks.length - (intOf i).toNat)
  case atStart => exact ⟨0, by omega, rfl, Below.refl _ _⟩
  case round =>
    obtain ⟨k, hk, rfl, hb⟩ := hrel
    have HB := Lib.hid hb
    clear hb
    by_cases hlt : k < ks.length
    · obtain ⟨b, o, rfl, hbl, _, e0, e1⟩ := H.out.get HB.out hlt
      obtain ⟨b', o', rfl, hbl', _, e0', e1'⟩ := H'.out.get HB.out hlt
      obtain ⟨u, hu⟩ : ∃ u, u = ks[k] := ⟨_, rfl⟩
      obtain ⟨v, hv⟩ : ∃ v, v = vs ks[k] := ⟨_, rfl⟩
      rw [← hu] at e0 e0'
      rw [← hv] at e1 e1'
      clear hu hv
      have hu1 : (u == u) = true := by simp
      have hv1 : (v == v) = true := by simp
      have hu2 : (u != u) = false := by simp
      have hv2 : (v != v) = false := by simp
      go_wp2_with fail
      go_quiet (fail)
      go_wp2_with fail
      go_roundw
      case rel => exact ⟨k + 1, by omega, by go_num, below_drewN HB.out _⟩
      case measure => simp [intOf]; omega
    · go_wp2_with fail
      go_ret
      exact ⟨rfl, HB.out⟩

set_option maxHeartbeats 2000000 in
theorem walk_taskFetches (w : World) (a : Option Addr) (n c : Nat) (h : CodeAt w a n c) :
    Calls Try.prog 5 #[.slice a n c] w fun e w' => e = .returned (.bool true) ∧ Below w.heap.size w w' := by
  have hn := h.1
  have hc := h.2.1
  have HC := Lib.hid h
  clear h
  by_cases hl : 1048576 < n
  · go_enter Try.func5, Try.ntmps5
    go_wp2_with fail
    go_ret
    exact ⟨rfl, Below.refl _ _⟩
  go_enter Try.func5, Try.ntmps5
  go_wp2_with fail
  refine (drawTaskFetches_any _ a n c HC.out).mono ?_
  rintro e w1 ⟨t, a1, c1, l, v, rfl, hat, ok1, ok2, hm, hnr, hll, hlb, hb⟩
  obtain ⟨av, cv, rfl, hia⟩ := hnr.at (by intro x hx; have := hlb x hx; unfold i64ok; omega)
  have hsz1 := hb.size
  have HT1 := Lib.hid (hat.alloc (.cells #[.int .i64 t.k, .int .i64 t.n, .slice a1 t.ps.length c1] 25))
  have HI1 := Lib.hid (hia.alloc (.cells #[.int .i64 t.k, .int .i64 t.n, .slice a1 t.ps.length c1] 25))
  have HB1 := Lib.hid (Blk.new w1 25 #[.int .i64 t.k, .int .i64 t.n, .slice a1 t.ps.length c1])
  have HX1 := Lib.hid (hb.alloc hsz1 (.cells #[.int .i64 t.k, .int .i64 t.n, .slice a1 t.ps.length c1] 25))
  have hnl : nodesL t.ps ≤ 1048576 := by have := t.nodes_eq; omega
  obtain ⟨K, hK⟩ : ∃ K, K = fks t l := ⟨_, rfl⟩
  obtain ⟨b, hbb⟩ : ∃ b, b = (t.ok && vok l) := ⟨_, rfl⟩
  have hkb := fks_bd t l
  rw [← hK] at hkb
  have hkl := hkb.2
  have HKB := Lib.hid hkb.1
  have HK := Lib.hid (And.intro hK hbb)
  clear hat hb HC ok1 ok2 hnr hia hlb hK hbb hkb
  go_wp2_with fail
  refine (implFetches_any t l _ _ _ a1 av c1 cv HT1.out HI1.out).mono ?_
  rintro e w2 hp
  obtain ⟨hb, vo, rfl, hrow⟩ := hp.split
  rw [← HK.out.1] at hrow
  rw [← HK.out.2]
  obtain ⟨ao, co, rfl, hfe⟩ := hrow.at
  have hsz2 := hb.size
  simp only [World.size_alloc] at hsz2
  have HT2 := Lib.hid (HT1.out.below hb)
  have HI2 := Lib.hid (HI1.out.below hb)
  have HB2 := Lib.hid (HB1.out.below hb (by simp))
  have HX2 := Lib.hid (HX1.out.trans (hb.mono (by simp; omega)))
  have HF2 := Lib.hid hfe
  clear hb HT1 HI1 HB1 HX1 hrow hfe hp
  obtain ⟨x0, x1, x2, f0, f1, f2⟩ := HB2.out.three
  go_wp2_with fail
  refine (specFetches_any t l _ _ _ a1 av c1 cv HT2.out hnl HI2.out).mono ?_
  rintro e w3 hp
  obtain ⟨hb, vo, rfl, hrow⟩ := hp.split
  rw [← HK.out.1] at hrow
  rw [← HK.out.2]
  obtain ⟨a4, c4, rfl, hfe⟩ := hrow.at
  have hsz3 := hb.size
  have HI3 := Lib.hid (HI2.out.below hb)
  have HX3 := Lib.hid (HX2.out.trans (hb.mono (by omega)))
  have HF3 := Lib.hid (HF2.out.below hb)
  have HG3 := Lib.hid hfe
  clear hb HT2 HI2 HB2 HX2 HF2 hrow hfe hp x0 x1 x2 f0 f1 f2
  go_wp2_with fail
  refine (brFet_any (vf l) _ _ _ K ao a4 co c4 HF3.out HG3.out).mono ?_
  rintro e w4 ⟨rfl, hb⟩
  have hsz4 := hb.size
  have HI4 := Lib.hid (HI3.out.below hb)
  have HX4 := Lib.hid (HX3.out.trans (hb.mono (by omega)))
  have HF4 := Lib.hid (HF3.out.below hb)
  have hnb : (b != b) = false := by simp
  clear hb HI3 HX3 HF3 HG3
  go_wp2_with fail
  clear hnb
  go_loop [9] (fun i => ∃ k : Nat, k ≤ K.length ∧ i = .int .i64 k) (fun i => K.length - (intOf i).toNat)
  case atStart => exact ⟨0, by omega, rfl⟩
  case round =>
    obtain ⟨k, hk, rfl⟩ := hrel
    by_cases hlt : k < K.length
    · obtain ⟨bb, o, rfl, hbl, _, e0, e1⟩ := HF4.out.get (Below.refl _ _) hlt
      have hkk := HKB.out K[k] (List.getElem_mem hlt)
      obtain ⟨key, hkey⟩ : ∃ key, key = K[k] := ⟨_, rfl⟩
      rw [← hkey] at e0 e1 hkk
      clear hkey
      obtain ⟨kn, rfl⟩ : ∃ kn : Nat, key = kn := ⟨key.toNat, by omega⟩
      by_cases hin : kn < l.length
      · rw [vf_in hin] at e1
        obtain ⟨b2, o2, rfl, hbl2, _, e2⟩ := HI4.out.get (Below.refl _ _) hin
        obtain ⟨u, hu⟩ : ∃ u, u = l[kn] := ⟨_, rfl⟩
        rw [← hu] at e1 e2
        have hne : (u != u) = false := by simp
        clear hu
        go_wp2_with fail
        go_round
        case rel => exact ⟨k + 1, by omega, by go_num⟩
        case measure => simp [intOf]; omega
      · rw [vf_out hin] at e1
        go_wp2_with fail
        go_round
        case rel => exact ⟨k + 1, by omega, by go_num⟩
        case measure => simp [intOf]; omega
    · go_wp2_with fail
      go_ret
      exact ⟨rfl, HX4.out⟩
end Go.Proofs.Ytmbgglmnbllpjaa
