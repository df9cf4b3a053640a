/- toTraceS, eqTraceS, markTraceS, heldTraceS: lists of traces as arguments and results of an exact law -/
import Derived.Test.YthjfmpeicjmlkaaTr1
namespace Go.Proofs.Ythjfmpeicjmlkaa
open Go.RowKit

def rt0 : Rt := ⟨0, [], 0⟩
def ovt (l : List Tr) (k : Nat) : List Rt := (l.take k).map Tr.raw ++ List.replicate (l.length - k) rt0
theorem ovt_len (l : List Tr) (k : Nat) (h : k ≤ l.length) : (ovt l k).length = l.length := by unfold ovt; simp; omega
theorem ovt_get (l : List Tr) (k : Nat) (h : k < l.length) : ∀ (h' : k < (ovt l k).length), (ovt l k)[k] = rt0 := by
  have e : (ovt l k)[k]? = some rt0 := by
    unfold ovt
    have hl : ((l.take k).map Tr.raw).length = k := by simp; omega
    rw [List.getElem?_append_right (by omega), hl, Nat.sub_self, List.getElem?_replicate, if_pos (by omega)]
  intro h'
  obtain ⟨_, e⟩ := List.getElem?_eq_some_iff.1 e
  exact e
theorem ovt_set (l : List Tr) (k : Nat) (h : k < l.length) : (ovt l k).set k l[k].raw = ovt l (k + 1) := by
  unfold ovt
  have hl : ((l.take k).map Tr.raw).length = k := by simp; omega
  rw [List.take_succ_eq_append_getElem h, List.map_append, List.set_append_right _ _ (by omega), hl, Nat.sub_self, List.append_assoc, show l.length - k = (l.length - (k + 1)) + 1 by omega, List.replicate_succ]
  rfl
theorem ovt_all (l : List Tr) : ovt l l.length = l.map Tr.raw := by unfold ovt; simp
theorem ovt_zero (l : List Tr) : ovt l 0 = List.replicate l.length rt0 := by unfold ovt; simp

theorem tcl_rep : ∀ n, tcl (List.replicate n rt0) (List.replicate n (.slice none 0 0)) = (List.replicate n [Value.int .i64 0, .slice none 0 0, .int .i64 0]).flatten
  | 0 => rfl
  | n + 1 => by rw [List.replicate_succ, List.replicate_succ, List.replicate_succ, List.flatten_cons, ← tcl_rep n]; rfl
theorem sub_rep (w : World) (base : Nat) : ∀ n, SubR w base (List.replicate n rt0) (List.replicate n (.slice none 0 0))
  | 0 => trivial
  | n + 1 => by rw [List.replicate_succ, List.replicate_succ]; exact ⟨World.ownsRow_nil _ _ _ _, sub_rep w base n⟩
theorem made_three (n : Nat) : (madeCells #[Value.int .i64 0, .slice none 0 0, .int .i64 0] (n * 3)).toList = (List.replicate n [Value.int .i64 0, .slice none 0 0, .int .i64 0]).flatten := by
  have hlen : ∀ n, (List.replicate n [Value.int .i64 0, .slice none 0 0, .int .i64 0]).flatten.length = n * 3 := by intro n; simp
  have hget : ∀ (n i : Nat), i < n * 3 → (List.replicate n [Value.int .i64 0, .slice none 0 0, .int .i64 0]).flatten[i]? = some (if i % 3 = 1 then .slice none 0 0 else .int .i64 0) := by
    intro n
    induction n with
    | zero => intro i hi; omega
    | succ n ih =>
      intro i hi
      rw [List.replicate_succ, List.flatten_cons]
      match i with
      | 0 => rfl
      | 1 => rfl
      | 2 => rfl
      | i + 3 =>
        rw [List.getElem?_append_right (by simp)]
        have := ih i (by omega)
        simpa using this
  refine List.ext_getElem (by simp [size_madeCells]) fun i h1 h2 => ?_
  have h2' : i < n * 3 := by rw [hlen] at h2; exact h2
  have hr := hget n i h2'
  obtain ⟨_, he⟩ := List.getElem?_eq_some_iff.1 hr
  rw [he]
  have key : (madeCells #[Value.int IntKind.i64 0, .slice none 0 0, .int .i64 0] (n * 3))[i]? = some (if i % 3 = 1 then .slice none 0 0 else .int .i64 0) := by
    have : i % 3 = 0 ∨ i % 3 = 1 ∨ i % 3 = 2 := by omega
    rcases this with h | h | h <;> simp [madeCells, h2', h]
  obtain ⟨hx, he⟩ := Array.getElem?_eq_some_iff.1 key
  simpa using he

theorem trs_made (w : World) (n : Nat) (hn : n ≤ 1048576) : TrsOw (w.alloc (.cells (madeCells #[.int .i64 0, .slice none 0 0, .int .i64 0] (n * 3)) 27)) w.heap.size (.slice (some ⟨w.heap.size, 0, none⟩) n n) (List.replicate n rt0) (List.replicate n (.slice none 0 0)) := by
  have hml : maxLen = 9223372036854775807 := rfl
  have hne : ∀ u ∈ List.replicate n (Value.slice none 0 0), ∀ b, u.ownBlock ≠ some b := by
    intro u hu b
    rw [List.eq_of_mem_replicate hu]
    simp [Value.ownBlock]
  refine ⟨⟨by rw [tcl_rep]; simp, .inr ⟨w.heap.size, n, _, by rw [List.length_replicate], Nat.le_refl _, heap_alloc_new w _, by simp, by rw [hml]; omega, by rw [size_madeCells], ?_⟩⟩, sub_rep _ _ n, fun u hu b hb => absurd hb (hne u hu b), ?_⟩
  · rw [made_three, tcl_rep, List.length_replicate]
    exact List.take_of_length_le (by simp)
  · rw [List.pairwise_iff_getElem]
    intro i j hi hj _ b hb
    exact absurd hb (hne _ (List.getElem_mem hi) b)

/-- Where toTraceS stands. -/
def TsRel (w : World) (l : List Tr) (i : Value) (wr : World) : Prop := ∃ (k : Nat) (us : List Value), k ≤ l.length ∧ i = .int .i64 k ∧ TrsOw wr w.heap.size (.slice (some ⟨w.heap.size, 0, none⟩) l.length l.length) (ovt l k) us ∧ Below w.heap.size w wr

set_option maxRecDepth 100000 in
set_option maxHeartbeats 4000000 in
theorem toTraceS_any (w : World) (S : Nat → Prop) (l : List Tr) (a : Option Addr) (c : Nat) (h : TrsAt w S l a c) (hle : trN l ≤ 1048576) :
    Calls Try.prog 7 #[.slice a l.length c] w fun e w' => ∃ us, e = .returned (.slice (some ⟨w.heap.size, 0, none⟩) l.length l.length) ∧ TrsOw w' w.heap.size (.slice (some ⟨w.heap.size, 0, none⟩) l.length l.length) (l.map Tr.raw) us ∧ Below w.heap.size w w' := by
  have H := Lib.hid h
  have HN := Lib.hid hle
  have hlen : l.length ≤ 1048576 := by have := trN_ge l; omega
  obtain ⟨i0, hi, hz0, hz1, hz2⟩ := info_parts infoTrace
  have hmk := fun W => run_make_rowN (P := Try.prog) 30 27 i0 _ Try.underlying30 hi hz0 .i64 .i64 l.length l.length (Nat.le_refl _) (by rw [hz2]; omega) (by omega) W
  rw [hz1] at hmk
  clear h hle
  go_enter Try.func7, Try.ntmps7
  go_wp2_with fail
  clear hmk
  have HR0 := Lib.hid (trs_made w l.length hlen)
  have HB0 := Lib.hid ((Below.refl w.heap.size w).alloc (Nat.le_refl _) (.cells (madeCells #[.int .i64 0, .slice none 0 0, .int .i64 0] (l.length * 3)) 27))
  go_loopw [4] (fun i wr => TsRel w l i wr ∧ True) (fun i _ => l.length - (intOf i).toNat)
  case atStart => exact ⟨⟨0, _, by omega, rfl, by rw [ovt_zero]; exact HR0.out, HB0.out⟩, trivial⟩
  case round =>
    obtain ⟨⟨k, us, hk, rfl, hr, hb⟩, -⟩ := hrel
    have HB := Lib.hid hb
    have HR := Lib.hid hr
    have hwr := hb.size
    clear hb hr HR0 HB0
    by_cases hlt : k < l.length
    · obtain ⟨b, o, a', c', rfl, hbl, _, e0, e1, e2, hs, _, _⟩ := H.out.get HB.out hlt
      have hsn := trN_snoc l k hlt
      have hrs := trN_rest l (k + 1)
      have hul : l[k].u.length ≤ 1048576 := by have := HN.out; omega
      have HOS := Lib.hid (ovt_set l k hlt)
      have hol := ovt_len l k hk
      have HOG := Lib.hid (ovt_get l k hlt)
      have HOL := Lib.hid hol
      obtain ⟨t, ht⟩ : ∃ t, t = l[k] := ⟨_, rfl⟩
      rw [← ht] at e0 e1 e2 hs hul HOS
      have HS := Lib.hid hs
      clear hs ht hsn hrs hol
      go_wp2_with fail
      refine (toTrace_any wr S t a' c' HS.out hul).mono ?_
      rintro e w1 ⟨v, rfl, hfr, hb⟩
      obtain ⟨av, cv, rfl⟩ := own_shape' hfr
      have hr1 := HR.out.below hb
      have hkl : k < (ovt l k).length := by rw [HOL.out]; exact hlt
      obtain ⟨g, cap, u0, hv0, hgl, -, -, -, c0, c1, c2, fz⟩ := hr1.get k hkl
      simp only [Value.slice.injEq, Option.some.injEq, Addr.mk.injEq, and_true] at hv0
      obtain ⟨rfl, -⟩ := hv0
      have f0 := fz (k * 3)
      have f1 := fz (k * 3 + 1)
      have f2 := fz (k * 3 + 2)
      obtain ⟨y0, hy0⟩ : ∃ y, y = (ovt l k)[k].k := ⟨_, rfl⟩
      obtain ⟨y2, hy2⟩ : ∃ y, y = (ovt l k)[k].v := ⟨_, rfl⟩
      rw [← hy0] at c0
      rw [← hy2] at c2
      have hfresh : ∀ b, (Value.slice av t.u.length cv).ownBlock = some b → ¬ trD (.slice (some ⟨w.heap.size, 0, none⟩) l.length l.length) us b := fun b hb hd => by
        have h1 := (World.ownsRow.lt hfr b hb).1
        have h2 := (HR.out.lt hd).2
        omega
      have s1 := hr1.setN k hkl (k * 3) t.k ⟨t.k, [], 0⟩ (by rw [HOG.out]; rfl) (.inl ⟨rfl, rfl, by rw [HOG.out]; rfl⟩)
      have hkl1 : k < ((ovt l k).set k ⟨t.k, [], 0⟩).length := by rw [List.length_set]; exact hkl
      have hfr1 : FRow (w1.setCell ⟨w.heap.size, k * 3, none⟩ (.int .i64 t.k)) w.heap.size (.slice av t.u.length cv) ((pcl t.u).length / 2) (pcl t.u) := by
        rw [pcl_len, Nat.mul_div_cancel _ (by decide)]
        exact ownsRow_setCell_other (ownsRow_low hfr hwr) (a := ⟨w.heap.size, k * 3, none⟩) (by intro e; exact hfresh _ e (.inl rfl)) _
      have s2 := s1.setU k hkl1 ⟨t.k, pcl t.u, 0⟩ (.slice av t.u.length cv) (by simp) (by simp) hfr1 hfresh
      have hkl2 : k < (((ovt l k).set k ⟨t.k, [], 0⟩).set k ⟨t.k, pcl t.u, 0⟩).length := by rw [List.length_set]; exact hkl1
      have s3 := s2.setN k hkl2 (k * 3 + 2) t.v ⟨t.k, pcl t.u, t.v⟩ (by simp) (.inr ⟨rfl, rfl, by simp⟩)
      rw [List.set_set, List.set_set, show (⟨t.k, pcl t.u, t.v⟩ : Rt) = t.raw from rfl, HOS.out] at s3
      have HS3 := Lib.hid s3
      have HB1 := Lib.hid ((((HB.out.trans (hb.mono hwr)).setCell (p := ⟨w.heap.size, k * 3, none⟩) (Nat.le_refl _) (.int .i64 t.k)).setCell (p := ⟨w.heap.size, k * 3 + 1, none⟩) (Nat.le_refl _) (.slice av t.u.length cv)).setCell (p := ⟨w.heap.size, k * 3 + 2, none⟩) (Nat.le_refl _) (.int .i64 t.v))
      clear hb hfr hr1 hkl fz hy0 hy2 hfresh s1 hkl1 hfr1 s2 hkl2 s3
      obtain ⟨u1, hu1⟩ : ∃ u, u = u0 := ⟨_, rfl⟩
      rw [← hu1] at c1
      clear hu1
      go_wp2_with fail
      go_roundw
      case rel => exact ⟨⟨k + 1, _, by omega, by go_num, HS3.out, HB1.out⟩, trivial⟩
      case measure => simp [intOf]; omega
    · have hq := HR.out
      rw [show k = l.length by omega, ovt_all] at hq
      have HQ := Lib.hid hq
      clear hq
      go_wp2_with fail
      go_ret
      exact ⟨_, rfl, HQ.out, HB.out⟩

/-- eqTraceS of two readings of one list -/
theorem eqTraces_any (w : World) (S S' : Nat → Prop) (l : List Tr) (a a' : Option Addr) (c c' : Nat) (h : TrsAt w S l a c) (h' : TrsAt w S' l a' c') :
    Calls Try.prog 11 #[.slice a l.length c, .slice a' l.length c'] w fun e w' => e = .returned (.bool true) ∧ Below w.heap.size w w' := by
  have hlen : l.length ≤ 9223372036854775807 := RwAt.len h
  have H := Lib.hid h
  have H' := Lib.hid h'
  clear h h'
  have hne : (((l.length : Nat) : Int) != ((l.length : Nat) : Int)) = false := by simp
  go_enter Try.func11, Try.ntmps11
  go_wp2_with fail
  clear hne
  go_loopw [5] (fun i wr => ∃ k : Nat, k ≤ l.length ∧ i = .int .i64 k ∧ Below w.heap.size w wr) (fun i _ => l.length - (intOf i).toNat)
  case atStart => exact ⟨0, by omega, rfl, Below.refl _ _⟩
  case round =>
    obtain ⟨k, hk, rfl, hb⟩ := hrel
    have HB := Lib.hid hb
    clear hb
    by_cases hlt : k < l.length
    · obtain ⟨b, o, a2, c2, rfl, hbl, _, e0, e1, e2, hs, _, _⟩ := H.out.get HB.out hlt
      obtain ⟨b', o', a2', c2', rfl, hbl', _, e0', e1', e2', hs', _, _⟩ := H'.out.get HB.out hlt
      obtain ⟨t, ht⟩ : ∃ t, t = l[k] := ⟨_, rfl⟩
      rw [← ht] at e0 e1 e2 hs e0' e1' e2' hs'
      have HS := Lib.hid hs.drew
      have HS' := Lib.hid hs'.drew
      clear hs hs' ht
      go_wp2_with fail
      go_region_with (go_at_call 10; refine (eqTrace_any _ S S' t a2 a2' c2 c2' HS.out HS'.out).mono ?_; rintro e w1 ⟨rfl, hb⟩)
      all_goals
        have HB' := Lib.hid (HB.out.drew.trans (hb.mono HB.out.size))
        clear hb
        go_wp2_with fail
        go_roundw
        case rel => exact ⟨k + 1, by omega, by go_num, HB'.out⟩
        case measure => simp [intOf]; omega
    · go_wp2_with fail
      go_ret
      exact ⟨rfl, HB.out⟩

/-- Traces in memory of their own, in blocks that meet D. -/
def TracesOw (w : World) (D : Nat → Prop) (l : List Tr) (a : Option Addr) (c : Nat) : Prop := ∃ us, TrsOw w 0 (.slice a l.length c) (l.map Tr.raw) us ∧ ∀ b, trD (.slice a l.length c) us b → D b
section
variable {w w' : World} {D : Nat → Prop} {l : List Tr} {a : Option Addr} {c : Nat}
theorem TracesOw.at (h : TracesOw w D l a c) (hok : ∀ t ∈ l, trFine t) : TrsAt w D l a c := by
  obtain ⟨us, h1, h2⟩ := h
  obtain ⟨a', c', he, hat⟩ := h1.at hok
  simp only [Value.slice.injEq] at he
  obtain ⟨rfl, _, rfl⟩ := he
  exact hat.weaken h2
theorem TracesOw.fr {D' : Nat → Prop} (h : TracesOw w D l a c) (hf : Fr D' w w') (hD : ∀ b, D b → ¬ D' b) : TracesOw w' D l a c := by
  obtain ⟨us, h1, h2⟩ := h
  exact ⟨us, h1.fr hf (fun b hb => hD b (h2 b hb)), h2⟩
theorem TracesOw.below (h : TracesOw w D l a c) (hb : Below w.heap.size w w') : TracesOw w' D l a c := TracesOw.fr (D' := fun _ => False) h (Fr.of_below hb) (fun _ _ hf => hf)
end
def CopiedQO (l : List Tr) (w : World) (e : Ending) (w' : World) : Prop := ∃ a c D, e = .returned (.slice a l.length c) ∧ TracesOw w' D l a c ∧ (∀ b, D b → w.heap.size ≤ b ∧ b < w'.heap.size) ∧ Below w.heap.size w w'
theorem copyQ_ow (w : World) (S : Nat → Prop) (l : List Tr) (a : Option Addr) (c : Nat) (h : TrsAt w S l a c) (hle : trN l ≤ 1048576) : Calls Try.prog 7 #[.slice a l.length c] w (CopiedQO l w) :=
  (toTraceS_any w S l a c h hle).mono fun _ _ ⟨us, he, hr, hb⟩ => by
    have hr' := hr
    exact ⟨_, _, trD (.slice (some ⟨w.heap.size, 0, none⟩) l.length l.length) us, he, ⟨us, TrsOw.low (by simpa using hr) (Nat.zero_le _), fun _ h => h⟩, fun b hb => hr'.lt hb, hb⟩
end Go.Proofs.Ythjfmpeicjmlkaa
