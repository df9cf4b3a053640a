/- spec.TaskSame -/
import Derived.Test.YtmbgglmnbllpjaaBs2
namespace Go.Proofs.Ytmbgglmnbllpjaa
open Go.RowKit

set_option maxHeartbeats 2000000 in
set_option maxRecDepth 100000 in
theorem specSame_any (t : T) (x y : List Int) (w : World) (S S' S2 : Nat → Prop) (a a' a2 : Option Addr) (c c' c2 : Nat) (hat : AtS w S t.ps a c) (hle : nodesL t.ps ≤ 1048576) (hx : IntsAt w S' x a' c') (hy : IntsAt w S2 y a2 c2) :
    Calls Try.prog 33 #[.agg #[.int .i64 t.k, .int .i64 t.n, .slice a t.ps.length c], .slice a' x.length c', .slice a2 y.length c2] w fun e w' => e = .returned (.bool (tSame t x y)) ∧ Below w.heap.size w w' := by
  have K0 := Lib.hid (Kp.start (ty := 25) hat.lim)
  have L0 := Lib.hid (hx.alloc (.cells #[.int .i64 t.k, .int .i64 t.n, .slice a t.ps.length c] 25))
  have M0 := Lib.hid (hy.alloc (.cells #[.int .i64 t.k, .int .i64 t.n, .slice a t.ps.length c] 25))
  obtain ⟨K, hK⟩ : ∃ K, K = (if (t.ok && vok x) = true then usesL (t.kys (vf x)) else []) := ⟨_, rfl⟩
  have hkb : (∀ k ∈ K, 0 ≤ k ∧ k ≤ 9) ∧ K.length ≤ 15 := by
    rw [hK]; split
    · rename_i h
      have := kys_ok h
      have h2 := usesL_len (t.kys (vf x))
      exact ⟨fun k hk => this.1 k (usesL_mem.1 hk), by omega⟩
    · simp
  have hkl := hkb.2
  have HKB := Lib.hid hkb.1
  obtain ⟨b, hb⟩ : ∃ b, b = (t.ok && vok x) := ⟨_, rfl⟩
  have hno : agree x y K = false → tSame t x y = false := by
    intro h
    unfold tSame
    rw [hK] at h
    cases hb : (t.ok && vok x)
    · rfl
    · rw [hb, if_pos rfl, agree_uses] at h
      rw [h]; simp
  have hyes : agree x y K = true → tSame t x y = (b && vok y) := by
    intro h
    unfold tSame
    rw [hK] at h
    cases hb2 : (t.ok && vok x)
    · rw [hb, hb2]; rfl
    · rw [hb2, if_pos rfl, agree_uses] at h
      rw [h, hb, hb2]; simp
  have hup : ∀ w0 e w', UsPost t x w0 e w' → Below w0.heap.size w0 w' ∧ ∃ v, e = .returned (.tuple #[v, .bool b]) ∧ NumRow w' w0.heap.size v K := by
    rintro w0 e w' ⟨h1, v, h2, h3⟩
    rw [hb, hK]
    exact ⟨h1, v, h2, h3⟩
  have HNO := Lib.hid hno
  have HYES := Lib.hid hyes
  have HUP := Lib.hid hup
  obtain ⟨r, hr⟩ : ∃ r, r = tSame t x y := ⟨_, rfl⟩
  have HR := Lib.hid hr
  rw [← hr]
  clear hat hx hy hK hkb hb hno hyes hup hr
  go_enter Try.func33, Try.ntmps33
  go_wp2_with fail
  refine (specUses_any t x _ _ _ a a' c c' K0.out.2 hle L0.out).mono ?_
  rintro e w1 hp
  obtain ⟨hb, v, rfl, hn⟩ := HUP.out _ _ _ hp
  obtain ⟨a3, c3, rfl, hia⟩ := hn.at (fun z hz => by have := HKB.out z hz; unfold i64ok; omega)
  have HX := Lib.hid (K0.out.step hb).done
  have L1 := Lib.hid (L0.out.below hb)
  have M1 := Lib.hid (M0.out.below hb)
  have HI := Lib.hid hia
  clear hp hb K0 L0 M0 hn hia HUP
  go_wp2_with fail
  go_loopw [9] (fun i wr => ∃ k : Nat, k ≤ K.length ∧ i = .int .i64 k ∧ agree x y (K.take k) = true ∧ Below w1.heap.size w1 wr) (fun i _ => K.length - (intOf i).toNat)
  case atStart => exact ⟨0, by omega, rfl, rfl, Below.refl _ _⟩
  case round =>
    obtain ⟨k, hk, rfl, hq, hbw⟩ := hrel
    have HB := Lib.hid hbw
    have HQ := Lib.hid hq
    clear hbw hq
    by_cases hlt : k < K.length
    · obtain ⟨b', o, rfl, hbl, _, e0⟩ := HI.out.get HB.out hlt
      have hkk := HKB.out K[k] (List.getElem_mem hlt)
      obtain ⟨key, hkey⟩ : ∃ key, key = K[k] := ⟨_, rfl⟩
      obtain ⟨u, hu⟩ : ∃ u, u = vf x K[k] := ⟨_, rfl⟩
      obtain ⟨z, hz⟩ : ∃ z, z = vf y K[k] := ⟨_, rfl⟩
      rw [← hkey] at e0 hkk
      have HSN := Lib.hid (show agree x y (K.take (k + 1)) = (agree x y (K.take k) && decide (vf y K[k] = vf x K[k])) from all_snoc _ K k hlt)
      have HFA := Lib.hid (show decide (vf y K[k] = vf x K[k]) = false → agree x y K = false from all_false (fun k => decide (vf y k = vf x k)) K k hlt)
      have HUV := Lib.hid (show decide (z = u) = decide (vf y K[k] = vf x K[k]) by rw [hu, hz])
      have HQ1 := Lib.hid (show ∀ n, Calls Try.prog 71 #[.slice a' x.length c', .int .i64 key] (wr.drewN n) fun e w' => e = .returned (.int .i64 u) ∧ w' = wr.drewN n from fun n => by
        have h := of_any _ _ x a' c' ((L1.out.below HB.out).drewN n) key hkk.1 (by omega)
        rw [show vf x key = u by rw [hu, hkey]] at h
        exact h.mono fun _ _ ⟨he, hw⟩ => ⟨he, hw.symm⟩)
      have HQ2 := Lib.hid (show ∀ n, Calls Try.prog 71 #[.slice a2 y.length c2, .int .i64 key] (wr.drewN n) fun e w' => e = .returned (.int .i64 z) ∧ w' = wr.drewN n from fun n => by
        have h := of_any _ _ y a2 c2 ((M1.out.below HB.out).drewN n) key hkk.1 (by omega)
        rw [show vf y key = z by rw [hz, hkey]] at h
        exact h.mono fun _ _ ⟨he, hw⟩ => ⟨he, hw.symm⟩)
      clear hkey hu hz
      by_cases huv : z = u
      · have hne : (u != z) = false := by simp [huv]
        go_wp2_with fail
        go_quiet ((go_at_call 71; (first | (with_reducible exact Calls.quiet_of_same (HQ1.out _)) | (with_reducible exact Calls.quiet_of_same (HQ2.out _)))))
        go_wp2_with fail
        go_roundw
        case rel => exact ⟨k + 1, by omega, by go_num, by rw [HSN.out, HQ.out, ← HUV.out, decide_eq_true huv]; rfl, below_drewN HB.out _⟩
        case measure => simp [intOf]; omega
      · have hne : (u != z) = true := by simp; exact fun h => huv h.symm
        go_wp2_with fail
        go_quiet ((go_at_call 71; (first | (with_reducible exact Calls.quiet_of_same (HQ1.out _)) | (with_reducible exact Calls.quiet_of_same (HQ2.out _)))))
        go_wp2_with fail
        go_ret
        exact ⟨ret_bool (by rw [HR.out, HNO.out (HFA.out (by rw [← HUV.out]; exact decide_eq_false huv))]), HX.out.trans ((below_drewN HB.out _).mono HX.out.size)⟩
    · have hf : tSame t x y = (b && vok y) := HYES.out (by have := HQ.out; rwa [List.take_of_length_le (by omega)] at this)
      have HF' := Lib.hid (HR.out.trans hf)
      have M2 := Lib.hid (M1.out.below HB.out)
      clear hf
      cases b
      · have HRF := Lib.hid (show r = false by rw [HF'.out]; rfl)
        go_wp2_with fail
        go_ret
        exact ⟨ret_bool HRF.out.symm, HX.out.trans (HB.out.mono HX.out.size)⟩
      · have HRF := Lib.hid (show r = vok y by rw [HF'.out]; rfl)
        obtain ⟨q, hq⟩ : ∃ q, q = vok y := ⟨_, rfl⟩
        have HQQ := Lib.hid hq
        clear hq
        go_wp2_with fail
        refine (specVals_any _ _ y a2 c2 M2.out).mono ?_
        rintro e w2 ⟨rfl, rfl⟩
        rw [← HQQ.out]
        go_wp2_with fail
        go_ret
        exact ⟨ret_bool (by rw [HRF.out, ← HQQ.out]; try rfl), HX.out.trans (HB.out.mono HX.out.size)⟩
end Go.Proofs.Ytmbgglmnbllpjaa
