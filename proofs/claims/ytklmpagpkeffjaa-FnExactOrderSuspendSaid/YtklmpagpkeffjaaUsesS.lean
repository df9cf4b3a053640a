/- spec.l2Has, spec.l2Uses, spec.TaskUses, spec.TaskSame -/
import Derived.Test.YtklmpagpkeffjaaSameI
namespace Go.Proofs.Ytklmpagpkeffjaa
open Go.RowKit

theorem mem_take_succ {l : List Int} {k : Nat} (h : k < l.length) (n : Int) : n ∈ l.take (k + 1) ↔ n ∈ l.take k ∨ n = l[k] := by
  rw [List.take_succ_eq_append_getElem h, List.mem_append, List.mem_singleton]

/-- spec.l2Has -/
theorem has_any (w : World) (S : Nat → Prop) (l : List Int) (a : Option Addr) (c : Nat) (n : Int) (h : IntsAt w S l a c) :
    Calls Try.prog 59 #[.slice a l.length c, .int .i64 n] w fun e w' => e = .returned (.bool (decide (n ∈ l))) ∧ w = w' := by
  have hlen : l.length ≤ 9223372036854775807 := by have := h.1; have := h.2.1; omega
  have H := Lib.hid h
  obtain ⟨r, hr⟩ : ∃ r, r = decide (n ∈ l) := ⟨_, rfl⟩
  have HR := Lib.hid hr
  rw [← hr]
  clear h hr
  go_enter Try.func59, Try.ntmps59
  go_wp2_with fail
  go_loop [5] (fun i => ∃ k : Nat, k ≤ l.length ∧ i = .int .i64 k ∧ ¬ n ∈ l.take k) (fun i => l.length - (intOf i).toNat)
  case atStart => exact ⟨0, by omega, rfl, by simp⟩
  case round =>
    obtain ⟨k, hk, rfl, hq⟩ := hrel
    have HQ := Lib.hid hq
    clear hq
    by_cases hlt : k < l.length
    · obtain ⟨b, o, rfl, hbl, _, hc⟩ := H.out.get (Below.refl _ _) hlt
      have HM := Lib.hid (mem_take_succ hlt n)
      have HE := Lib.hid (List.getElem_mem hlt)
      obtain ⟨v, hv⟩ : ∃ v, v = l[k] := ⟨_, rfl⟩
      rw [← hv] at hc
      have HVV := Lib.hid hv
      clear hv
      by_cases hvn : v = n
      · have hd : (v == n) = true := by simpa using hvn
        have hrt : r = true := by rw [HR.out, decide_eq_true_eq, ← hvn, HVV.out]; exact HE.out
        have HRT := Lib.hid hrt
        clear hrt hvn
        go_wp2_with fail
        go_ret
        exact ⟨ret_bool HRT.out.symm, rfl⟩
      · have hd : (v == n) = false := by simpa using hvn
        have HVN := Lib.hid hvn
        clear hvn
        go_wp2_with fail
        go_round
        case rel => exact ⟨k + 1, by omega, by go_num, fun h => by
          rcases HM.out.1 h with h | h
          · exact HQ.out h
          · exact HVN.out (by rw [HVV.out, h])⟩
        case measure => simp [intOf]; omega
    · have hrf : r = false := by
        have := HQ.out
        rw [List.take_of_length_le (by omega)] at this
        rw [HR.out]; exact decide_eq_false this
      have HRF := Lib.hid hrf
      clear hrf
      go_wp2_with fail
      go_ret
      exact ⟨ret_bool HRF.out.symm, rfl⟩

/-- Each key once, in the order in which they come first. -/
def ustep (acc : List Int) (k : Int) : List Int := if k ∈ acc then acc else acc ++ [k]
def usesL (ks : List Int) : List Int := ks.foldl ustep []
theorem usesL_snoc {ks : List Int} {k : Nat} (h : k < ks.length) : usesL (ks.take (k + 1)) = ustep (usesL (ks.take k)) ks[k] := by
  unfold usesL
  rw [List.take_succ_eq_append_getElem h, List.foldl_append]
  rfl
theorem ustep_mem {acc : List Int} {k x : Int} : x ∈ ustep acc k ↔ x ∈ acc ∨ x = k := by
  unfold ustep
  split
  · rename_i h
    constructor
    · exact .inl
    · rintro (h' | rfl)
      · exact h'
      · exact h
  · simp
theorem foldl_ustep_mem : ∀ (ks acc : List Int) (x : Int), x ∈ ks.foldl ustep acc ↔ x ∈ acc ∨ x ∈ ks
  | [], acc, x => by simp
  | k :: r, acc, x => by
    rw [List.foldl_cons, foldl_ustep_mem r, ustep_mem, List.mem_cons]
    constructor
    · rintro ((h | h) | h)
      · exact .inl h
      · exact .inr (.inl h)
      · exact .inr (.inr h)
    · rintro (h | h | h)
      · exact .inl (.inl h)
      · exact .inl (.inr h)
      · exact .inr h
theorem usesL_mem {ks : List Int} {x : Int} : x ∈ usesL ks ↔ x ∈ ks := by unfold usesL; rw [foldl_ustep_mem]; simp
theorem foldl_ustep_len : ∀ (ks acc : List Int), (ks.foldl ustep acc).length ≤ acc.length + ks.length
  | [], acc => by simp
  | k :: r, acc => by
    have := foldl_ustep_len r (ustep acc k)
    have h2 : (ustep acc k).length ≤ acc.length + 1 := by unfold ustep; split <;> simp
    simp only [List.foldl_cons, List.length_cons]
    omega
theorem usesL_len (ks : List Int) : (usesL ks).length ≤ ks.length := by have := foldl_ustep_len ks []; simpa [usesL] using this

def UsesPost (ks : List Int) (w : World) (e : Ending) (w' : World) : Prop := ∃ v, e = .returned v ∧ NumRow w' w.heap.size v (usesL ks) ∧ Below w.heap.size w w'

set_option maxHeartbeats 2000000 in
theorem uses_any (vs : Int → Int) (w : World) (S : Nat → Prop) (ks : List Int) (a : Option Addr) (c : Nat) (h : FetAt vs w S ks a c) (hk : ∀ k ∈ ks, 0 ≤ k ∧ k ≤ 9) (hl : ks.length ≤ 100) :
    Calls Try.prog 80 #[.slice a ks.length c] w (UsesPost ks w) := by
  obtain ⟨iN, ni, nz0, nz1, nz2⟩ := info_parts infoInt
  have HIN := Lib.hid (And.intro ni (And.intro nz0 (And.intro nz1 nz2)))
  have hml : maxLen = 9223372036854775807 := rfl
  have HML := Lib.hid hml
  have H := Lib.hid h
  have HKB := Lib.hid hk
  have HN0 := Lib.hid (rowN_new w)
  clear h hk ni nz0 nz1 nz2 hml
  go_enter Try.func80, Try.ntmps80
  go_wp2_with fail
  go_loopw [3, 4] (fun v i wr => ∃ k : Nat, k ≤ ks.length ∧ i = .int .i64 k ∧ NumRow wr w.heap.size v (usesL (ks.take k)) ∧ Below w.heap.size w wr) (fun _ i _ => ks.length - (intOf i).toNat)
  case atStart => exact ⟨0, by omega, rfl, HN0.out, (Below.refl _ _).alloc (Nat.le_refl _) _⟩
  case round =>
    obtain ⟨k, hk, rfl, hn, hb⟩ := hrel
    have HB := Lib.hid hb
    have HN := Lib.hid hn
    clear hb
    by_cases hlt : k < ks.length
    · obtain ⟨b, o, rfl, hbl, _, e0, _⟩ := H.out.get HB.out hlt
      obtain ⟨acc, hacc⟩ : ∃ acc, acc = usesL (ks.take k) := ⟨_, rfl⟩
      have hal : acc.length ≤ 100 := by rw [hacc]; have := usesL_len (ks.take k); simp at this; omega
      obtain ⟨a1, c1, hv1, hia⟩ := hn.at (fun x hx => by
        have := HKB.out x (List.mem_of_mem_take (usesL_mem.1 hx))
        unfold i64ok; omega)
      rw [← hacc] at hv1 hia HN
      subst hv1
      have HIA := Lib.hid hia
      have HSN := Lib.hid (show usesL (ks.take (k + 1)) = ustep acc ks[k] by rw [usesL_snoc hlt, hacc])
      obtain ⟨key, hkey⟩ : ∃ key, key = ks[k] := ⟨_, rfl⟩
      rw [← hkey] at e0 HSN
      clear hacc hn hia hkey
      by_cases hin : key ∈ acc
      · have hu : usesL (ks.take (k + 1)) = acc := by rw [HSN.out]; unfold ustep; rw [if_pos hin]
        have HU := Lib.hid hu
        have hd : decide (key ∈ acc) = true := decide_eq_true hin
        have HD := Lib.hid hd
        clear hu hd hin
        go_wp2_with fail
        refine (has_any _ _ acc a1 c1 key HIA.out).mono ?_
        rintro e w' ⟨rfl, rfl⟩
        rw [HD.out]
        go_wp2_with fail
        go_roundw
        case rel => exact ⟨k + 1, by omega, by go_num, by rw [HU.out]; exact HN.out, HB.out⟩
        case measure => simp [intOf]; omega
      · have hu : usesL (ks.take (k + 1)) = acc ++ [key] := by rw [HSN.out]; unfold ustep; rw [if_neg hin]
        have HU := Lib.hid hu
        have hd : decide (key ∈ acc) = false := decide_eq_false hin
        have HD := Lib.hid hd
        have hws := HB.out.size
        clear hu hd hin
        go_wp2_with fail
        refine (has_any _ _ acc a1 c1 key HIA.out).mono ?_
        rintro e w' ⟨rfl, rfl⟩
        rw [HD.out]
        go_wp2_with (at_builtin; refine wpList_append_own _ rfl (.tmp 20) (.tmp 26) 30 rfl w.heap.size 3 iN (.int .i64 0) 1 8 Try.underlying30 HIN.out.1 HIN.out.2.1 HIN.out.2.2.1 HIN.out.2.2.2 rfl (by decide) _ acc.length (acc.map (Value.int .i64)) rfl (HN.out.alloc _) ⟨wr.heap.size, 0, none⟩ 1 1 [.int .i64 key] rfl rfl ?d1 ?d2 ?d3 ?d4 ?d5 ?_)
        case d1 => exact news1 _ _ _
        case d2 => simp [Value.oneCell']
        case d3 => rw [HML.out]; omega
        case d4 => omega
        case d5 => simp; omega
        intro v2 w2 hown hgr _
        have hN2 : NumRow w2 w.heap.size v2 (acc ++ [key]) := by
          unfold NumRow
          rw [List.map_append, show (acc ++ [key]).length = acc.length + 1 by simp]
          exact hown
        have hB2 : Below w.heap.size w w2 := (HB.out.alloc (by omega) _).trans (below_grown hgr (by simp; omega) (own_ge HN.out))
        have H2 := Lib.hid (And.intro hN2 hB2)
        clear hown hgr hN2 hB2
        go_wp2_with fail
        go_roundw
        case rel => exact ⟨k + 1, by omega, by go_num, by rw [HU.out]; exact H2.out.1, H2.out.2⟩
        case measure => simp [intOf]; omega
    · have hq : ks.take k = ks := List.take_of_length_le (by omega)
      rw [hq] at HN
      clear hq hn
      go_wp2_with fail
      go_ret
      exact ⟨_, rfl, HN.out, HB.out⟩

/-- What TaskUses leaves. -/
def UsPost (t : T) (lv : List Int) (w : World) (e : Ending) (w' : World) : Prop :=
  Below w.heap.size w w' ∧ ∃ v, e = .returned (.tuple #[v, .bool (t.ok && vok lv)]) ∧ NumRow w' w.heap.size v (if (t.ok && vok lv) = true then usesL (t.kys (vf lv)) else [])

theorem kys_ok {t : T} {lv : List Int} (h : (t.ok && vok lv) = true) : (∀ k ∈ t.kys (vf lv), 0 ≤ k ∧ k ≤ 9) ∧ (t.kys (vf lv)).length ≤ 15 := by
  simp only [Bool.and_eq_true] at h
  have hfn : t.fit = true ∧ t.nodes ≤ 15 := by simpa [T.ok] using h.1
  have := T.kys_bd (vf lv) t hfn.1
  exact ⟨this.1, by omega⟩

theorem agree_uses (x y : List Int) (ks : List Int) : agree x y (usesL ks) = agree x y ks := by
  unfold agree
  rw [Bool.eq_iff_iff, List.all_eq_true, List.all_eq_true]
  exact ⟨fun h k hk => h k (usesL_mem.2 hk), fun h k hk => h k (usesL_mem.1 hk)⟩
end Go.Proofs.Ytklmpagpkeffjaa
