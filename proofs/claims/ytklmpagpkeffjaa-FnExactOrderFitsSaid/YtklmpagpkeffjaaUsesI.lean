/- slices.Contains at numbers; impl.TaskUses -/
import Derived.Test.YtklmpagpkeffjaaUsesS
namespace Go.Proofs.Ytklmpagpkeffjaa
open Go.RowKit

def IndexPost (l : List Int) (n : Int) (w : World) (e : Ending) (w' : World) : Prop := ∃ r : Int, e = .returned (.int .i64 r) ∧ decide (0 ≤ r) = decide (n ∈ l) ∧ w = w'

theorem index_any (w : World) (S : Nat → Prop) (l : List Int) (a : Option Addr) (c : Nat) (n : Int) (h : IntsAt w S l a c) :
    Calls Try.prog 113 #[.slice a l.length c, .int .i64 n] w (IndexPost l n w) := by
  have hlen : l.length ≤ 9223372036854775807 := by have := h.1; have := h.2.1; omega
  have H := Lib.hid h
  clear h
  go_enter Try.func113, Try.ntmps113
  go_wp2_with fail
  go_loop [8] (fun i => ∃ k : Nat, k ≤ l.length ∧ i = .int .i64 k ∧ ¬ n ∈ l.take k) (fun i => l.length - (intOf i).toNat)
  case atStart => exact ⟨0, by omega, rfl, by simp⟩
  case round =>
    obtain ⟨k, hk, rfl, hq⟩ := hrel
    have HQ := Lib.hid hq
    clear hq
    by_cases hlt : k < l.length
    · obtain ⟨b, o, rfl, hbl, _, hc⟩ := H.out.get (Below.refl _ _) hlt
      have HM := Lib.hid (mem_take_succ hlt n)
      have HE := Lib.hid (List.getElem_mem hlt)
      obtain ⟨v, hv⟩ : ∃ v, v = l[k] := ⟨_, rfl⟩
      rw [← hv] at hc
      have HVV := Lib.hid hv
      clear hv
      by_cases hvn : n = v
      · have hd : (n == v) = true := by simpa using hvn
        have hrt : n ∈ l := by rw [hvn, HVV.out]; exact HE.out
        have HRT := Lib.hid hrt
        clear hrt hvn
        go_wp2_with fail
        go_ret
        exact ⟨k, rfl, by rw [decide_eq_true HRT.out, decide_eq_true (by omega)], rfl⟩
      · have hd : (n == v) = false := by simpa using hvn
        have HVN := Lib.hid hvn
        clear hvn
        go_wp2_with fail
        go_round
        case rel => exact ⟨k + 1, by omega, by go_num, fun h => by
          rcases HM.out.1 h with h | h
          · exact HQ.out h
          · exact HVN.out (by rw [HVV.out, h])⟩
        case measure => simp [intOf]; omega
    · have hrf : ¬ n ∈ l := by
        have := HQ.out
        rwa [List.take_of_length_le (by omega)] at this
      have HRF := Lib.hid hrf
      clear hrf
      go_wp2_with fail
      go_ret
      exact ⟨-1, rfl, by rw [decide_eq_false HRF.out]; rfl, rfl⟩

theorem contains_any (w : World) (S : Nat → Prop) (l : List Int) (a : Option Addr) (c : Nat) (n : Int) (h : IntsAt w S l a c) :
    Calls Try.prog 77 #[.slice a l.length c, .int .i64 n] w fun e w' => e = .returned (.bool (decide (n ∈ l))) ∧ w = w' := by
  have H := Lib.hid h
  obtain ⟨r, hr⟩ : ∃ r, r = decide (n ∈ l) := ⟨_, rfl⟩
  have HR := Lib.hid hr
  rw [← hr]
  clear h hr
  go_enter Try.func77, Try.ntmps77
  go_wp2_with fail
  refine (index_any w S l a c n H.out).mono ?_
  rintro e w' ⟨q, rfl, hq, rfl⟩
  have HQ := Lib.hid hq
  clear hq
  go_wp2_with fail
  go_ret
  exact ⟨ret_bool (by rw [HR.out, ← HQ.out]), rfl⟩

set_option maxHeartbeats 2000000 in
theorem implUses_any (t : T) (lv : List Int) (w : World) (S S' : Nat → Prop) (a a' : Option Addr) (c c' : Nat) (hat : AtS w S t.ps a c) (hl : IntsAt w S' lv a' c') :
    Calls Try.prog 29 #[.agg #[.int .i64 t.k, .int .i64 t.n, .slice a t.ps.length c], .slice a' lv.length c'] w (UsPost t lv w) := by
  have K0 := Lib.hid (Kp.start (ty := 42) hat.lim)
  have L0 := Lib.hid (hl.alloc (.cells #[.int .i64 t.k, .int .i64 t.n, .slice a t.ps.length c] 42))
  clear hat hl
  cases hv : (t.ok && vok lv)
  · have HV := Lib.hid hv
    have hx : UsPost t lv w = fun e w' => Below w.heap.size w w' ∧ ∃ v, e = .returned (.tuple #[v, .bool false]) ∧ NumRow w' w.heap.size v [] := by unfold UsPost; rw [hv, if_neg (by decide)]
    have HX := Lib.hid hx
    clear hv hx
    go_enter Try.func29, Try.ntmps29
    go_wp2_with fail
    refine (implFetches_any t lv _ _ _ a a' c c' K0.out.2 L0.out).mono ?_
    rintro e w1 ⟨hb, hm⟩
    rw [HV.out, if_neg (by decide)] at hm
    obtain ⟨vo, rfl, _⟩ := hm
    have K1 := Lib.hid (K0.out.step hb)
    clear hb K0
    go_wp2_with fail
    go_ret2
    rw [HX.out]
    exact ⟨K1.out.done, _, rfl, World.ownsRow_nil _ _ _ _⟩
  · have HV := Lib.hid hv
    have hx : UsPost t lv w = fun e w' => Below w.heap.size w w' ∧ ∃ v, e = .returned (.tuple #[v, .bool true]) ∧ NumRow w' w.heap.size v (usesL (t.kys (vf lv))) := by unfold UsPost; rw [hv, if_pos rfl]
    have HX := Lib.hid hx
    have hkb := kys_ok hv
    obtain ⟨ks, hks⟩ : ∃ ks, ks = t.kys (vf lv) := ⟨_, rfl⟩
    rw [← hks] at hkb HX
    have HKS := Lib.hid hks
    have hkl := hkb.2
    have HKB := Lib.hid hkb.1
    obtain ⟨iN, ni, nz0, nz1, nz2⟩ := info_parts infoInt
    have HIN := Lib.hid (And.intro ni (And.intro nz0 (And.intro nz1 nz2)))
    have hml : maxLen = 9223372036854775807 := rfl
    have HML := Lib.hid hml
    clear hv hx hkb hks ni nz0 nz1 nz2 hml
    go_enter Try.func29, Try.ntmps29
    go_wp2_with fail
    refine (implFetches_any t lv _ _ _ a a' c c' K0.out.2 L0.out).mono ?_
    rintro e w1 ⟨hb, hm⟩
    rw [HV.out, if_pos rfl, ← HKS.out] at hm
    obtain ⟨vo, rfl, hrow⟩ := hm
    obtain ⟨a3, c3, rfl, hfe⟩ := hrow.at
    have K1 := Lib.hid (K0.out.step hb).done
    have HF := Lib.hid hfe
    have hs1 := K1.out.size
    clear hb K0 L0 hrow hfe
    go_wp2_with fail
    go_loopw [8, 21] (fun v i wr => ∃ k : Nat, k ≤ ks.length ∧ i = .int .i64 k ∧ NumRow wr w.heap.size v (usesL (ks.take k)) ∧ Below w1.heap.size w1 wr ∧ (∀ b, v.ownBlock = some b → w1.heap.size ≤ b)) (fun _ i _ => ks.length - (intOf i).toNat)
    case atStart => exact ⟨0, by omega, rfl, World.ownsRow_nil _ _ _ _, Below.refl _ _, by simp [Value.ownBlock]⟩
    case round =>
      obtain ⟨k, hk, rfl, hn, hb, hge⟩ := hrel
      have HB := Lib.hid hb
      have HN := Lib.hid hn
      have HGE := Lib.hid hge
      have hwr := hb.size
      clear hb hge
      by_cases hlt : k < ks.length
      · obtain ⟨b, o, rfl, hbl, _, e0, e1⟩ := HF.out.get HB.out hlt
        obtain ⟨acc, hacc⟩ : ∃ acc, acc = usesL (ks.take k) := ⟨_, rfl⟩
        have hal : acc.length ≤ 100 := by rw [hacc]; have := usesL_len (ks.take k); simp at this; omega
        obtain ⟨a1, c1, hv1, hia⟩ := hn.at (fun x hx => by
          have := HKB.out x (List.mem_of_mem_take (usesL_mem.1 hx))
          unfold i64ok; omega)
        rw [← hacc] at hv1 hia HN
        subst hv1
        have HSN := Lib.hid (show usesL (ks.take (k + 1)) = ustep acc ks[k] by rw [usesL_snoc hlt, hacc])
        obtain ⟨key, hkey⟩ : ∃ key, key = ks[k] := ⟨_, rfl⟩
        obtain ⟨u, hu⟩ : ∃ u, u = vf lv ks[k] := ⟨_, rfl⟩
        rw [← hkey] at e0 HSN
        rw [← hu] at e1
        have HIA := Lib.hid (hia.alloc (.cells #[.int .i64 key, .int .i64 u] 96))
        have HN1 := Lib.hid (World.ownsRow.alloc HN.out (.cells #[.int .i64 key, .int .i64 u] 96))
        have HB1 := Lib.hid (HB.out.alloc hwr (.cells #[.int .i64 key, .int .i64 u] 96))
        clear hacc hn hia hkey hu
        by_cases hin : key ∈ acc
        · have hu : usesL (ks.take (k + 1)) = acc := by rw [HSN.out]; unfold ustep; rw [if_pos hin]
          have HU := Lib.hid hu
          have hd : decide (key ∈ acc) = true := decide_eq_true hin
          have HD := Lib.hid hd
          clear hu hd hin
          go_wp2_with fail
          refine (contains_any _ _ acc a1 c1 key HIA.out).mono ?_
          rintro e w' ⟨rfl, rfl⟩
          rw [HD.out]
          go_wp2_with fail
          go_roundw
          case rel => exact ⟨k + 1, by omega, by go_num, by rw [HU.out]; exact HN1.out, HB1.out, HGE.out⟩
          case measure => simp [intOf]; omega
        · have hu : usesL (ks.take (k + 1)) = acc ++ [key] := by rw [HSN.out]; unfold ustep; rw [if_neg hin]
          have HU := Lib.hid hu
          have hd : decide (key ∈ acc) = false := decide_eq_false hin
          have HD := Lib.hid hd
          clear hu hd hin
          go_wp2_with fail
          refine (contains_any _ _ acc a1 c1 key HIA.out).mono ?_
          rintro e w' ⟨rfl, rfl⟩
          rw [HD.out]
          have hz : (wr.alloc (.cells #[.int .i64 key, .int .i64 u] 96)).heap.size = wr.heap.size + 1 := by simp
          have HZ := Lib.hid hz
          clear hz
          go_wp2_with (at_builtin; refine wpList_append_row _ rfl (.tmp 30) (.tmp 33) 30 rfl w.heap.size 3 iN (.int .i64 0) 1 8 Try.underlying30 HIN.out.1 HIN.out.2.1 HIN.out.2.2.1 HIN.out.2.2.2 rfl (by decide) _ acc.length (acc.map (Value.int .i64)) rfl (World.ownsRow.alloc HN1.out _) ⟨wr.heap.size + 1, 0, none⟩ 1 1 [.int .i64 key] rfl rfl ?d1 ?d2 (by decide) ?d3 ?d4 ?d5 ?_)
          case d1 => have h := news1 (wr.alloc (.cells #[.int .i64 key, .int .i64 u] 96)) 3 (.int .i64 key); rw [World.size_alloc] at h; exact h
          case d2 => simp [Value.oneCell']
          case d3 => rw [HML.out]; omega
          case d4 => omega
          case d5 => simp; omega
          intro v2 w2 hown hgr hnew
          have hN2 : NumRow w2 w.heap.size v2 (acc ++ [key]) := by
            unfold NumRow
            rw [List.map_append, show (acc ++ [key]).length = acc.length + 1 by simp]
            exact hown
          have hB2 : Below w1.heap.size w1 w2 := (HB1.out.alloc (by simp; omega) _).trans (below_grown hgr (by simp; omega) HGE.out)
          have hG2 : ∀ b, v2.ownBlock = some b → w1.heap.size ≤ b := fun b hb => by
            rcases hnew b hb with h | h
            · exact HGE.out b h
            · omega
          have H2 := Lib.hid (And.intro hN2 (And.intro hB2 hG2))
          clear hown hgr hnew hN2 hB2 hG2
          go_wp2_with fail
          go_roundw
          case rel => exact ⟨k + 1, by omega, by go_num, by rw [HU.out]; exact H2.out.1, H2.out.2.1, H2.out.2.2⟩
          case measure => simp [intOf]; omega
      · have hq : ks.take k = ks := List.take_of_length_le (by omega)
        rw [hq] at HN
        clear hq hn
        go_wp2_with fail
        go_ret2
        rw [HX.out]
        exact ⟨K1.out.trans (HB.out.mono hs1), _, rfl, HN.out⟩
end Go.Proofs.Ytklmpagpkeffjaa
