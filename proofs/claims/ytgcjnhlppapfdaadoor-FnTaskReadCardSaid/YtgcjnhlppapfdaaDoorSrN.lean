/- spec.l1Rd: number -/
import Derived.Test.YtgcjnhlppapfdaaDoorSrI
namespace Go.Proofs.YtgcjnhlppapfdaaDoor
open Go.RowKit Go.Lib

set_option maxRecDepth 100000 in
set_option maxHeartbeats 4000000 in
theorem numberS_any (w : World) (g p : Nat) (s : ByteArray) (h : SrAt w g s p false) (hp : p ≤ s.size) (hs : s.size ≤ 1048576) :
    Calls Tryd.prog 34 #[.pointer (some ⟨g, 0, none⟩)] w (NumSPost w g s p (numS s p)) := by
  have H := Lib.hid h
  obtain ⟨x0, x1, x2, f0, f1, f2⟩ := Blk.three h
  clear h
  go_enter Tryd.func34, Tryd.ntmps34
  go_wp2_with fail
  clear x0 x1 x2 f0 f1 f2
  go_loopw [3] (fun n wr => ∃ k v : Nat, n = .int .i64 v ∧ SumS s p k v ∧ SrAt wr g s (p + k) false ∧ Only g w wr) (fun _ wr => s.size - posS wr g)
  case atStart => exact ⟨0, 0, rfl, ⟨by omega, by omega, by omega, .inl ⟨rfl, rfl⟩⟩, H.out, Only.refl g w⟩
  case round =>
    obtain ⟨k, v, rfl, hsum, hr, ho⟩ := hrel
    obtain ⟨q, hq⟩ : ∃ q, q = p + k := ⟨_, rfl⟩
    have hvl := hsum.le.1
    have hk3 := hsum.1
    have hpk := hsum.2.1
    rw [← hq] at hpk hr
    have HS := Lib.hid hsum
    have HR := Lib.hid hr
    have HO := Lib.hid ho
    have HQ := Lib.hid hq
    have HP := Lib.hid hr.pos
    obtain ⟨x0, x1, x2, f0, f1, f2⟩ := Blk.three hr
    clear hr ho hsum hq
    by_cases hlt : q < s.size
    · have htt : decide ((q : Int) < (s.size : Int)) = true := by simp; omega
      obtain ⟨c, hc⟩ : ∃ c, c = at_ s q := ⟨_, rfl⟩
      have hge : s[q].toNat = c := (at_lt hlt).trans hc.symm
      have HC := Lib.hid hc
      clear hc
      by_cases h48 : 48 ≤ c
      · have h48d : decide ((48 : Int) ≤ (c : Int)) = true := by simp; omega
        by_cases h57 : c ≤ 57
        · have h57d : decide ((c : Int) ≤ 57) = true := by simp; omega
          by_cases hk : k < 3
          · have hkd : decide ((q : Int) - (p : Int) < 3) = true := by have := HQ.out; simp; omega
            have W0 : IntKind.u8.wrap ((c : Int) - 48) = (c : Int) - 48 := wrap_u8 h48 (by omega)
            have hst := HS.out.step hk (by rw [← HQ.out, ← HC.out]; simp [isD]; omega)
            rw [← HQ.out, ← HC.out] at hst
            have HST := Lib.hid hst
            have hv99 : v ≤ 99 := HS.out.le.2 hk
            clear hst
            go_wp2_with fail
            go_quiet (fail)
            revert nq
            intro n1
            go_wp2_with fail
            go_quiet (fail)
            revert nq
            intro n2
            obtain ⟨v2, hv2⟩ : ∃ v2 : Nat, v2 = v * 10 + (c - 48) := ⟨_, rfl⟩
            rw [show (v : Int) * 10 + ((c : Int) - 48) = ((v2 : Nat) : Int) by omega]
            rw [← hv2] at HST
            obtain ⟨W, hW⟩ : ∃ W, W = (wr.drewN n1).drewN n2 := ⟨_, rfl⟩
            have HRW := Lib.hid (show SrAt W g s q false by rw [hW]; exact HR.out)
            have HOW := Lib.hid (show Only g w W by rw [hW]; exact (HO.out.drewN n1).drewN n2)
            rw [← hW]
            clear hW hv2 htt h48d h57d hkd W0 hge h48 h57 x0 x1 x2 f0 f1 f2 hv99 hvl
            obtain ⟨x0, x1, x2, f0, f1, f2⟩ := Blk.three HRW.out
            go_wp2_with fail
            have hR1 := HRW.out.set_at (q + 1)
            rw [show (((q + 1 : Nat) : Int)) = (q : Int) + 1 by omega] at hR1
            refine ⟨⟨k + 1, v2, rfl, HST.out, by rw [show p + (k + 1) = q + 1 by have := HQ.out; omega]; exact hR1, HOW.out.set (.inl rfl) _⟩, ?_⟩
            rw [hR1.pos, HP.out]
            omega
          · have hkd : decide ((q : Int) - (p : Int) < 3) = false := by have := HQ.out; simp; omega
            have HDN := Lib.hid (HS.out.done (.inl (by omega)))
            by_cases hk0 : k = 0
            · have hqp : ((q : Int) == (p : Int)) = true := by have := HQ.out; simp; omega
              have HN := Lib.hid (show numS s p = none by rw [HDN.out, if_pos hk0])
              clear hk0
              go_wp2_with fail
              go_quiet (fail)
              revert nq
              intro n1
              go_wp2_with fail
              go_ret
              exact numSPost_none HN.out ((HO.out.drewN n1).set (.inl rfl) _) ((HR.out.drewN n1).set_bad true) hpk rfl hvl
            have hqp : ((q : Int) == (p : Int)) = false := by have := HQ.out; simp; omega
            by_cases hk1 : k = 1
            · have hgt : decide ((1 : Int) < (q : Int) - (p : Int)) = false := by have := HQ.out; simp; omega
              have HN := Lib.hid (show numS s p = some (v, k) by rw [HDN.out, if_neg hk0, if_neg (by omega)])
              clear hk0 hk1
              go_wp2_with fail
              go_quiet (fail)
              revert nq
              intro n1
              go_wp2_with fail
              go_ret
              exact numSPost_some HN.out HQ.out hpk ((HO.out.drewN n1).set (.inl rfl) _) ((HR.out.drewN n1).set_bad false) rfl hvl
            have hgt : decide ((1 : Int) < (q : Int) - (p : Int)) = true := by have := HQ.out; simp; omega
            have hpp : p < s.size := by have := HQ.out; omega
            obtain ⟨d, hd⟩ : ∃ d, d = at_ s p := ⟨_, rfl⟩
            have hgp : s[p].toNat = d := (at_lt hpp).trans hd.symm
            have HDD := Lib.hid hd
            clear hd
            by_cases h0 : d = 48
            · have h00 : ((d : Int) == 48) = true := by simp; omega
              have HN := Lib.hid (show numS s p = none by rw [HDN.out, if_neg hk0, if_pos ⟨by omega, by rw [← HDD.out]; exact h0⟩])
              clear hk0 hk1 h0
              go_wp2_with fail
              go_quiet (fail)
              revert nq
              intro n1
              go_wp2_with fail
              go_ret
              exact numSPost_none HN.out ((HO.out.drewN n1).set (.inl rfl) _) ((HR.out.drewN n1).set_bad true) hpk rfl hvl
            · have h00 : ((d : Int) == 48) = false := by simp; omega
              have HN := Lib.hid (show numS s p = some (v, k) by rw [HDN.out, if_neg hk0, if_neg (fun h => h0 (by rw [HDD.out]; exact h.2))])
              clear hk0 hk1 h0
              go_wp2_with fail
              go_quiet (fail)
              revert nq
              intro n1
              go_wp2_with fail
              go_ret
              exact numSPost_some HN.out HQ.out hpk ((HO.out.drewN n1).set (.inl rfl) _) ((HR.out.drewN n1).set_bad false) rfl hvl
        · have h57d : decide ((c : Int) ≤ 57) = false := by simp; omega
          have HDN := Lib.hid (HS.out.done (.inr (by rw [← HQ.out, ← HC.out]; simp [isD]; omega)))
          by_cases hk0 : k = 0
          · have hqp : ((q : Int) == (p : Int)) = true := by have := HQ.out; simp; omega
            have HN := Lib.hid (show numS s p = none by rw [HDN.out, if_pos hk0])
            clear hk0
            go_wp2_with fail
            go_quiet (fail)
            revert nq
            intro n1
            go_wp2_with fail
            go_ret
            exact numSPost_none HN.out ((HO.out.drewN n1).set (.inl rfl) _) ((HR.out.drewN n1).set_bad true) hpk rfl hvl
          have hqp : ((q : Int) == (p : Int)) = false := by have := HQ.out; simp; omega
          by_cases hk1 : k = 1
          · have hgt : decide ((1 : Int) < (q : Int) - (p : Int)) = false := by have := HQ.out; simp; omega
            have HN := Lib.hid (show numS s p = some (v, k) by rw [HDN.out, if_neg hk0, if_neg (by omega)])
            clear hk0 hk1
            go_wp2_with fail
            go_quiet (fail)
            revert nq
            intro n1
            go_wp2_with fail
            go_ret
            exact numSPost_some HN.out HQ.out hpk ((HO.out.drewN n1).set (.inl rfl) _) ((HR.out.drewN n1).set_bad false) rfl hvl
          have hgt : decide ((1 : Int) < (q : Int) - (p : Int)) = true := by have := HQ.out; simp; omega
          have hpp : p < s.size := by have := HQ.out; omega
          obtain ⟨d, hd⟩ : ∃ d, d = at_ s p := ⟨_, rfl⟩
          have hgp : s[p].toNat = d := (at_lt hpp).trans hd.symm
          have HDD := Lib.hid hd
          clear hd
          by_cases h0 : d = 48
          · have h00 : ((d : Int) == 48) = true := by simp; omega
            have HN := Lib.hid (show numS s p = none by rw [HDN.out, if_neg hk0, if_pos ⟨by omega, by rw [← HDD.out]; exact h0⟩])
            clear hk0 hk1 h0
            go_wp2_with fail
            go_quiet (fail)
            revert nq
            intro n1
            go_wp2_with fail
            go_ret
            exact numSPost_none HN.out ((HO.out.drewN n1).set (.inl rfl) _) ((HR.out.drewN n1).set_bad true) hpk rfl hvl
          · have h00 : ((d : Int) == 48) = false := by simp; omega
            have HN := Lib.hid (show numS s p = some (v, k) by rw [HDN.out, if_neg hk0, if_neg (fun h => h0 (by rw [HDD.out]; exact h.2))])
            clear hk0 hk1 h0
            go_wp2_with fail
            go_quiet (fail)
            revert nq
            intro n1
            go_wp2_with fail
            go_ret
            exact numSPost_some HN.out HQ.out hpk ((HO.out.drewN n1).set (.inl rfl) _) ((HR.out.drewN n1).set_bad false) rfl hvl
      · have h48d : decide ((48 : Int) ≤ (c : Int)) = false := by simp; omega
        have HDN := Lib.hid (HS.out.done (.inr (by rw [← HQ.out, ← HC.out]; simp [isD]; omega)))
        by_cases hk0 : k = 0
        · have hqp : ((q : Int) == (p : Int)) = true := by have := HQ.out; simp; omega
          have HN := Lib.hid (show numS s p = none by rw [HDN.out, if_pos hk0])
          clear hk0
          go_wp2_with fail
          go_quiet (fail)
          revert nq
          intro n1
          go_wp2_with fail
          go_ret
          exact numSPost_none HN.out ((HO.out.drewN n1).set (.inl rfl) _) ((HR.out.drewN n1).set_bad true) hpk rfl hvl
        have hqp : ((q : Int) == (p : Int)) = false := by have := HQ.out; simp; omega
        by_cases hk1 : k = 1
        · have hgt : decide ((1 : Int) < (q : Int) - (p : Int)) = false := by have := HQ.out; simp; omega
          have HN := Lib.hid (show numS s p = some (v, k) by rw [HDN.out, if_neg hk0, if_neg (by omega)])
          clear hk0 hk1
          go_wp2_with fail
          go_quiet (fail)
          revert nq
          intro n1
          go_wp2_with fail
          go_ret
          exact numSPost_some HN.out HQ.out hpk ((HO.out.drewN n1).set (.inl rfl) _) ((HR.out.drewN n1).set_bad false) rfl hvl
        have hgt : decide ((1 : Int) < (q : Int) - (p : Int)) = true := by have := HQ.out; simp; omega
        have hpp : p < s.size := by have := HQ.out; omega
        obtain ⟨d, hd⟩ : ∃ d, d = at_ s p := ⟨_, rfl⟩
        have hgp : s[p].toNat = d := (at_lt hpp).trans hd.symm
        have HDD := Lib.hid hd
        clear hd
        by_cases h0 : d = 48
        · have h00 : ((d : Int) == 48) = true := by simp; omega
          have HN := Lib.hid (show numS s p = none by rw [HDN.out, if_neg hk0, if_pos ⟨by omega, by rw [← HDD.out]; exact h0⟩])
          clear hk0 hk1 h0
          go_wp2_with fail
          go_quiet (fail)
          revert nq
          intro n1
          go_wp2_with fail
          go_ret
          exact numSPost_none HN.out ((HO.out.drewN n1).set (.inl rfl) _) ((HR.out.drewN n1).set_bad true) hpk rfl hvl
        · have h00 : ((d : Int) == 48) = false := by simp; omega
          have HN := Lib.hid (show numS s p = some (v, k) by rw [HDN.out, if_neg hk0, if_neg (fun h => h0 (by rw [HDD.out]; exact h.2))])
          clear hk0 hk1 h0
          go_wp2_with fail
          go_quiet (fail)
          revert nq
          intro n1
          go_wp2_with fail
          go_ret
          exact numSPost_some HN.out HQ.out hpk ((HO.out.drewN n1).set (.inl rfl) _) ((HR.out.drewN n1).set_bad false) rfl hvl
    · have htt : decide ((q : Int) < (s.size : Int)) = false := by simp; omega
      have HDN := Lib.hid (HS.out.done (.inr (by rw [← HQ.out]; simp [at_, hlt, isD])))
      by_cases hk0 : k = 0
      · have hqp : ((q : Int) == (p : Int)) = true := by have := HQ.out; simp; omega
        have HN := Lib.hid (show numS s p = none by rw [HDN.out, if_pos hk0])
        clear hk0
        go_wp2_with fail
        go_quiet (fail)
        revert nq
        intro n1
        go_wp2_with fail
        go_ret
        exact numSPost_none HN.out ((HO.out.drewN n1).set (.inl rfl) _) ((HR.out.drewN n1).set_bad true) hpk rfl hvl
      have hqp : ((q : Int) == (p : Int)) = false := by have := HQ.out; simp; omega
      by_cases hk1 : k = 1
      · have hgt : decide ((1 : Int) < (q : Int) - (p : Int)) = false := by have := HQ.out; simp; omega
        have HN := Lib.hid (show numS s p = some (v, k) by rw [HDN.out, if_neg hk0, if_neg (by omega)])
        clear hk0 hk1
        go_wp2_with fail
        go_quiet (fail)
        revert nq
        intro n1
        go_wp2_with fail
        go_ret
        exact numSPost_some HN.out HQ.out hpk ((HO.out.drewN n1).set (.inl rfl) _) ((HR.out.drewN n1).set_bad false) rfl hvl
      have hgt : decide ((1 : Int) < (q : Int) - (p : Int)) = true := by have := HQ.out; simp; omega
      have hpp : p < s.size := by have := HQ.out; omega
      obtain ⟨d, hd⟩ : ∃ d, d = at_ s p := ⟨_, rfl⟩
      have hgp : s[p].toNat = d := (at_lt hpp).trans hd.symm
      have HDD := Lib.hid hd
      clear hd
      by_cases h0 : d = 48
      · have h00 : ((d : Int) == 48) = true := by simp; omega
        have HN := Lib.hid (show numS s p = none by rw [HDN.out, if_neg hk0, if_pos ⟨by omega, by rw [← HDD.out]; exact h0⟩])
        clear hk0 hk1 h0
        go_wp2_with fail
        go_quiet (fail)
        revert nq
        intro n1
        go_wp2_with fail
        go_ret
        exact numSPost_none HN.out ((HO.out.drewN n1).set (.inl rfl) _) ((HR.out.drewN n1).set_bad true) hpk rfl hvl
      · have h00 : ((d : Int) == 48) = false := by simp; omega
        have HN := Lib.hid (show numS s p = some (v, k) by rw [HDN.out, if_neg hk0, if_neg (fun h => h0 (by rw [HDD.out]; exact h.2))])
        clear hk0 hk1 h0
        go_wp2_with fail
        go_quiet (fail)
        revert nq
        intro n1
        go_wp2_with fail
        go_ret
        exact numSPost_some HN.out HQ.out hpk ((HO.out.drewN n1).set (.inl rfl) _) ((HR.out.drewN n1).set_bad false) rfl hvl
end Go.Proofs.YtgcjnhlppapfdaaDoor
