/- spec.l3May, spec.SheetSafe -/
import Derived.Test.YtochgmbeomfkpaaShG
import Derived.Test.YtochgmbeomfkpaaBs2
import Derived.Test.YtochgmbeomfkpaaKeyM
namespace Go.Proofs.Ytochgmbeomfkpaa
open Go.RowKit

/-- The made keys of a sheet that a key may fetch. -/
def l3p (s : Sh) (j : Int) : Bool := decide (j < s.m.length) && s.mdI j
def l3L (s : Sh) (k : Nat) : List Int := (mayI (s.tk k) 10).filter (l3p s)
def L3Post (s : Sh) (k : Nat) (w : World) (e : Ending) (w' : World) : Prop := ∃ v, e = .returned v ∧ NumRow w' w.heap.size v (l3L s k) ∧ Below w.heap.size w w'

theorem filter_snoc (p : Int → Bool) (l : List Int) (i : Nat) (h : i < l.length) : (l.take (i + 1)).filter p = (l.take i).filter p ++ (if p l[i] = true then [l[i]] else []) := by
  rw [List.take_succ_eq_append_getElem h, List.filter_append]
  congr 1
  by_cases hp : p l[i] = true
  · rw [if_pos hp]; simp [hp]
  · rw [if_neg hp]; simp [hp]

set_option maxRecDepth 100000 in
set_option maxHeartbeats 4000000 in
theorem l3May_any (s : Sh) (k : Nat) (w : World) (S0 : Nat → Prop) (a : Option Addr) (c : Nat) (a' : Option Addr) (c' : Nat) (h0 : ShAt w S0 s a c a' c') (hn : nodesL s.t ≤ 1048576) (hok : s.ok = true) (hk : k < s.m.length) :
    Calls Try.prog 31 #[.agg #[.slice a s.m.length c, .slice a' s.t.length c'], .int .i64 k] w (L3Post s k w) := by
  obtain ⟨S, hSd⟩ : ∃ S : Nat → Prop, S = fun b => S0 b ∧ b < w.heap.size := ⟨_, rfl⟩
  have hSl : ∀ b, S b → b < w.heap.size := by rw [hSd]; exact fun b h => h.2
  have h : ShAt w S s a c a' c' := by rw [hSd]; exact h0.lim
  have HSL := Lib.hid hSl
  have hm10 : s.m.length ≤ 10 := (Sh.ok_iff.1 hok).1
  have htl := (Sh.ok_iff.1 hok).2.1
  have K0 := Lib.hid ((Ks.start (ty := 32) h).alloc (.cells #[] 3))
  have hr0 := rowN_new (w.alloc (.cells #[.slice a s.m.length c, .slice a' s.t.length c'] 32))
  simp only [World.size_alloc] at hr0
  have HR0 := Lib.hid hr0
  have hkt : k < s.t.length := by omega
  obtain ⟨b', o', a2, c2, ha', hbl, _, e0, e1, e2, hat, _, _⟩ := K0.out.2.2.elem (Below.refl _ _) hkt
  have htk : s.t[k] = s.tk k := (getD_len hkt).symm
  rw [htk] at e0 e1 e2 hat
  have HA := Lib.hid ha'
  have HAT := Lib.hid hat
  have hnk : nodesL (s.tk k).ps ≤ 1048576 := by have := T.nodes_le hkt; rw [htk] at this; have := (s.tk k).nodes_eq; omega
  have hmo : mayO (s.tk k) = mayI (s.tk k) 10 := by unfold mayO; rw [if_pos (s.tk_ok hok k)]
  have HNK := Lib.hid (And.intro hnk hmo)
  obtain ⟨iN, ni, nz0, nz1, nz2⟩ := info_parts infoInt
  have HIN := Lib.hid (And.intro ni (And.intro nz0 (And.intro nz1 nz2)))
  have hml : maxLen = 9223372036854775807 := rfl
  have HML := Lib.hid hml
  clear h h0 hSd hSl hn hok htl hr0 hat htk hnk hmo ha' ni nz0 nz1 nz2 hml
  obtain rfl := HA.out
  obtain ⟨x0, x1⟩ := K0.out.box
  go_enter Try.func31, Try.ntmps31
  go_wp2_with fail
  refine (specMay_any (s.tk k) _ S a2 c2 HAT.out HNK.out.1).mono ?_
  rintro e w1 ⟨hb, v, rfl, hr⟩
  rw [HNK.out.2] at hr
  obtain ⟨L, hL⟩ : ∃ L, L = mayI (s.tk k) 10 := ⟨_, rfl⟩
  have hLb : ∀ x ∈ L, 0 ≤ x ∧ x < 10 := by rw [hL]; exact fun x hx => by have := mayI_mem.1 hx; omega
  have hLl : L.length ≤ 10 := by rw [hL]; exact mayI_len _ _
  rw [← hL] at hr
  obtain ⟨a4, c4, rfl, hia⟩ := hr.at (fun x hx => by have := hLb x hx; unfold i64ok; omega)
  have K1 := Lib.hid (K0.out.step hb)
  have R1 := Lib.hid (ElRow.below (f := Value.int .i64) (e := 3) HR0.out hb)
  have HI1 := Lib.hid (hia.lim.weaken (S' := fun b => w.heap.size + 2 ≤ b ∧ b < w1.heap.size) (fun b hb => by have := hb.1; simp at this; exact ⟨by omega, hb.2⟩))
  have HL := Lib.hid hL
  have HLB := Lib.hid hLb
  have hs1 := hb.size
  simp only [World.size_alloc] at hs1
  clear hb hr hia hL hLb e0 e1 e2 x0 x1 K0 HR0
  go_wp2_with fail
  go_loopw [5, 7] (fun v i wr => ∃ q : Nat, q ≤ L.length ∧ i = .int .i64 q ∧ NumRow wr (w.heap.size + 1) v ((L.take q).filter (l3p s)) ∧ Ks S s a c (some ⟨b', o', none⟩) c' 32 w wr ∧ IntsAt wr (fun b => w.heap.size + 2 ≤ b ∧ b < w1.heap.size) L a4 c4 ∧ (∀ b, v.ownBlock = some b → b = w.heap.size + 1 ∨ w1.heap.size ≤ b) ∧ w1.heap.size ≤ wr.heap.size) (fun _ i _ => L.length - (intOf i).toNat)
  case atStart => exact ⟨0, by omega, rfl, R1.out, K1.out, HI1.out, fun b hb => by simp [Value.ownBlock] at hb; omega, Nat.le_refl _⟩
  case round =>
    obtain ⟨q, hq, rfl, hr, hks, hia, how, hsz⟩ := hrel
    have H2 := Lib.hid (And.intro hr (And.intro hks (And.intro hia how)))
    clear hr hks K1 R1 HI1
    obtain ⟨x0, x1⟩ := H2.out.2.1.box
    by_cases hlt : q < L.length
    · obtain ⟨bi, oi, rfl, hbi, _, hx⟩ := hia.get (Below.refl _ _) hlt
      have hxb := HLB.out L[q] (List.getElem_mem _)
      obtain ⟨xn, hxn⟩ : ∃ xn : Nat, L[q] = (xn : Int) := ⟨L[q].toNat, by omega⟩
      rw [hxn] at hx
      have hx10 : xn < 10 := by omega
      have HXN := Lib.hid hxn
      have hsn := filter_snoc (l3p s) L q hlt
      rw [hxn] at hsn
      clear hxb hxn hia how
      by_cases hxm : xn < s.m.length
      · obtain ⟨bm, om, ham, _, _, hc⟩ := ElAt.get H2.out.2.1.2.1 (Below.refl _ _) hxm
        have hmd : s.mdI (xn : Int) = s.m[xn] := by rw [mdI_nat]; exact getD_len hxm
        obtain ⟨mv, hmv⟩ : ∃ v, v = s.m[xn] := ⟨_, rfl⟩
        rw [← hmv] at hc hmd
        have hpv : l3p s (xn : Int) = mv := by unfold l3p; rw [hmd, decide_eq_true (by omega)]; rfl
        rw [hpv] at hsn
        have HSN := Lib.hid hsn
        have d1 : decide ((xn : Int) < ((s.m.length : Nat) : Int)) = true := decide_eq_true (by omega)
        have d2 : decide (xn < s.m.length) = true := decide_eq_true hxm
        have HAM := Lib.hid ham
        clear hmd hmv hpv hsn ham
        obtain rfl := HAM.out
        cases mv
        · go_wp2_with fail
          go_quiet (fail)
          go_wp2_with fail
          refine ⟨⟨q + 1, by omega, by go_num, ?_, H2.out.2.1.drewN _, H2.out.2.2.1.drewN _, H2.out.2.2.2, hsz⟩, by simp [intOf]; omega⟩
          rw [HSN.out]
          simp only [Bool.false_eq_true, if_false, List.append_nil]
          exact ElRow.below (f := Value.int .i64) (e := 3) H2.out.1 (below_drewN (Below.refl _ _) _)
        · go_wp2_with fail
          go_quiet (fail)
          revert nq
          intro n1
          obtain ⟨G, hG⟩ : ∃ G, G = (L.take q).filter (l3p s) := ⟨_, rfl⟩
          have hGl : G.length ≤ q := by rw [hG]; have := List.length_filter_le (l3p s) (L.take q); rw [List.length_take] at this; omega
          have hgow : (wr.drewN n1).ownsRow (w.heap.size + 1) 3 1 u5 G.length (G.map (.int .i64)) := by
            rw [hG]
            exact ElRow.below (f := Value.int .i64) (e := 3) H2.out.1 (below_drewN (Below.refl _ _) _)
          have HGO := Lib.hid hgow
          have HGE := Lib.hid hG
          have hsd : (wr.drewN n1).heap.size = wr.heap.size := rfl
          have HD := Lib.hid (And.intro (H2.out.2.1.drewN n1) (H2.out.2.2.1.drewN n1))
          have hx1 : (wr.drewN n1).cell? ⟨bi, oi + q, none⟩ = some (.int .i64 (xn : Int)) := hx
          obtain ⟨W, hW⟩ : ∃ W, W = wr.drewN n1 := ⟨_, rfl⟩
          rw [← hW] at HGO hsd HD hx1 ⊢
          have hwW : w.heap.size + 1 + 1 ≤ W.heap.size := by omega
          have hbiW : bi < W.heap.size := by omega
          have HSD := Lib.hid hsd
          clear hG hgow hx hc x0 x1 hW d1 d2 hsd
          go_wp2_with (at_builtin; refine wpList_append_row _ rfl (.tmp 39) (.tmp 44) 26 rfl (w.heap.size + 1) 3 iN (.int .i64 0) 1 8 Try.underlying26 HIN.out.1 HIN.out.2.1 HIN.out.2.2.1 HIN.out.2.2.2 rfl (by decide) _ G.length (G.map (.int .i64)) rfl (World.ownsRow.alloc HGO.out _) ⟨W.heap.size, 0, none⟩ 1 1 [.int .i64 (xn : Int)] rfl rfl ?d1 ?d2 (by decide) ?d3 ?d4 ?d5 ?_)
          case d1 => exact news1 _ _ _
          case d2 => simp [Value.oneCell']
          case d3 => rw [HML.out]; omega
          case d4 => omega
          case d5 => simp; omega
          intro v2 w3 hown hgr hnew
          have hr3 : NumRow w3 (w.heap.size + 1) v2 ((L.take (q + 1)).filter (l3p s)) := by
            unfold NumRow
            rw [HSN.out]
            simp only [if_true]
            rw [← HGE.out, List.length_append, List.map_append]
            exact hown
          have hge := own_ge HGO.out
          have hgfr : Fr (fun b => u5.ownBlock = some b) W w3 := (show Fr (fun b => u5.ownBlock = some b) W _ from Fr.of_below ((Below.refl W.heap.size W).alloc (Nat.le_refl _) (.cells #[.int .i64 (xn : Int)] 3))).trans (fr_grown hgr) (fun b hb => .inl hb)
          have hs3 := hgfr.size
          have hsd := HSD.out
          have H3 := Lib.hid (And.intro hr3 (And.intro (HD.out.1.fr hgfr hge HSL.out) (And.intro (HD.out.2.fr hgfr (fun b hb h => by have := H2.out.2.2.2 b h; omega)) (show ∀ b, v2.ownBlock = some b → b = w.heap.size + 1 ∨ w1.heap.size ≤ b from fun b hb => by
            rcases hnew b hb with h | h
            · exact H2.out.2.2.2 b h
            · exact .inr (by omega)))))
          have hs4 : w1.heap.size ≤ w3.heap.size := by omega
          clear hown hgr hnew hr3 hge hgfr hsd
          go_wp2_with fail
          go_roundw
          case rel => exact ⟨q + 1, by omega, by go_num, H3.out.1, H3.out.2.1, H3.out.2.2.1, H3.out.2.2.2, hs4⟩
          case measure => simp [intOf]; omega
      · have hpv : l3p s (xn : Int) = false := by unfold l3p; rw [decide_eq_false (by omega)]; rfl
        rw [hpv] at hsn
        have HSN := Lib.hid hsn
        have d1 : decide ((xn : Int) < ((s.m.length : Nat) : Int)) = false := decide_eq_false (by omega)
        have d2 : decide (xn < s.m.length) = false := decide_eq_false hxm
        clear hpv hsn
        go_wp2_with fail
        go_quiet (fail)
        go_wp2_with fail
        refine ⟨⟨q + 1, by omega, by go_num, ?_, H2.out.2.1.drewN _, H2.out.2.2.1.drewN _, H2.out.2.2.2, hsz⟩, by simp [intOf]; omega⟩
        rw [HSN.out]
        simp only [Bool.false_eq_true, if_false, List.append_nil]
        exact ElRow.below (f := Value.int .i64) (e := 3) H2.out.1 (below_drewN (Below.refl _ _) _)
    · have hf : (L.take q).filter (l3p s) = l3L s k := by rw [List.take_of_length_le (by omega), HL.out]; rfl
      have HF := Lib.hid hf
      clear hf hia how
      go_wp2_with fail
      go_ret
      exact ⟨_, rfl, by rw [← HF.out]; exact ownsRow_low H2.out.1 (Nat.le_succ _), H2.out.2.1.done⟩

/-- A block with n truths, told by a function. -/
def TruN (w : World) (g n : Nat) (D : Nat → Bool) : Prop := ∃ cs : Array Value, Blk w g 4 cs ∧ cs.size = n ∧ ∀ i, i < n → cs[i]? = some (.bool (D i))
section
variable {w w' : World} {g n : Nat} {D : Nat → Bool}
theorem TruN.lt (h : TruN w g n D) : g < w.heap.size := by obtain ⟨_, h, _⟩ := h; exact h.lt
theorem TruN.below (h : TruN w g n D) (hb : Below w.heap.size w w') : TruN w' g n D := by obtain ⟨cs, h1, h2⟩ := h; exact ⟨cs, h1.below hb h1.lt, h2⟩
theorem TruN.cell (h : TruN w g n D) {i : Nat} (hi : i < n) : w.cell? ⟨g, i, none⟩ = some (.bool (D i)) ∧ w.frozen? ⟨g, i, none⟩ = false := by
  obtain ⟨cs, h1, h2, h3⟩ := h
  exact ⟨(h1.cell i).trans (h3 i hi), h1.frozen i⟩
theorem TruN.set_ (h : TruN w g n D) (j : Nat) (b : Bool) : TruN (w.setCell ⟨g, j, none⟩ (.bool b)) g n (fun i => if i = j then b else D i) := by
  obtain ⟨cs, h1, h2, h3⟩ := h
  refine ⟨_, h1.set_ j (.bool b), by simp [h2], fun i hi => ?_⟩
  rw [Array.getElem?_setIfInBounds]
  by_cases hij : j = i
  · subst hij
    rw [if_pos rfl, if_pos (by omega)]; simp
  · rw [if_neg hij, h3 i hi]
    show _ = some (Value.bool (if i = j then b else D i))
    rw [if_neg (by omega)]
end
theorem truN_made (w : World) (n : Nat) : TruN (w.alloc (.cells (madeCells #[.bool false] n) 4)) w.heap.size n (fun _ => false) :=
  ⟨_, heap_alloc_new w _, by rw [size_madeCells], fun i hi => by rw [← Array.getElem?_toList, toList_madeCells_one, List.getElem?_replicate, if_pos hi]⟩

/-- Behind so many stages. -/
def sst (s : Sh) : Nat → Nat → Bool
  | 0, _ => false
  | r + 1, k => gst (chM s) (fun k => !s.mdI k) r (k : Int)
theorem sst_succ {s : Sh} {r k : Nat} (h : sst s r k = true) : sst s (r + 1) k = true := by
  cases r with
  | zero => cases h
  | succ r => exact gst_succ _ _ h
theorem l3_all {s : Sh} {k : Nat} {P : Int → Prop} (h : ∀ j ∈ l3L s k, P j) (hf : ∀ j, s.mdI j = false → P j) : ∀ j ∈ chM s (k : Int), P j := fun j hj => by
  cases hm : s.mdI j
  · exact hf j hm
  · refine h j ?_
    unfold l3L
    rw [List.mem_filter]
    have := mdI_bd hm
    refine ⟨hj, ?_⟩
    unfold l3p
    rw [hm, decide_eq_true this.2]; rfl
theorem l3_mem {s : Sh} {k : Nat} {j : Int} (h : j ∈ l3L s k) : j ∈ chM s (k : Int) ∧ 0 ≤ j ∧ j < s.m.length := by
  unfold l3L at h
  rw [List.mem_filter] at h
  unfold l3p at h
  rw [Bool.and_eq_true, decide_eq_true_eq] at h
  exact ⟨h.1, (mdI_bd h.2.2)⟩

/-- What holds of the truths in round r, up to key k. -/
def SRel (s : Sh) (r k : Nat) (D : Nat → Bool) : Prop := (∀ i, i < s.m.length → D i = true → okM s (i : Int) = true) ∧ (∀ i, i < s.m.length → sst s r i = true → D i = true) ∧ (∀ i, i < k → i < s.m.length → sst s (r + 1) i = true → D i = true)

theorem SRel.next {s : Sh} {r : Nat} {D : Nat → Bool} (h : SRel s r s.m.length D) : SRel s (r + 1) 0 D := ⟨h.1, fun i hi hs => h.2.2 i hi hi hs, fun i hi _ _ => by omega⟩
theorem l3_free {s : Sh} {k : Nat} (hok : s.ok = true) (hk : k < s.m.length) (hm : s.mdI (k : Int) = false) : l3L s k = [] := by
  have h := (Sh.ok_iff.1 hok).2.2 k hk
  rw [mdI_nat] at hm
  unfold Sh.kok kOk at h
  rw [hm, if_neg (by decide)] at h
  unfold l3L
  rw [zt_eq h]
  rfl
theorem SRel.start (s : Sh) : SRel s 0 0 (fun _ => false) := by
  refine ⟨fun i _ h => ?_, fun i _ h => ?_, fun i h _ _ => absurd h (Nat.not_lt_zero _)⟩
  · simp at h
  · simp [sst] at h
theorem SRel.step {s : Sh} {r k : Nat} {D : Nat → Bool} (hok : s.ok = true) (hkn : k < s.m.length) (h : SRel s r k D) (b : Bool) (hb : b = (l3L s k).all fun j => D j.toNat) : SRel s r (k + 1) (fun i => if i = k then b else D i) := by
  obtain ⟨h1, h2, h3⟩ := h
  have hall : b = true → ∀ j ∈ l3L s k, D j.toNat = true := fun hbt j hj => by
    rw [hb, List.all_eq_true] at hbt
    exact hbt j hj
  have hsound : b = true → okM s (k : Int) = true := fun hbt => (gr_M s).up (k : Int) (l3_all (P := fun j => okM s j = true) (fun j hj => by
    obtain ⟨_, j0, j1⟩ := l3_mem hj
    have := h1 j.toNat (by omega) (hall hbt j hj)
    rwa [show ((j.toNat : Nat) : Int) = j by omega] at this) (fun j hm => (gr_M s).d0ok j (by simp only [hm]; rfl)))
  have hcomp : sst s (r + 1) k = true → b = true := fun hs => by
    rw [hb, List.all_eq_true]
    intro j hj
    obtain ⟨hjc, j0, j1⟩ := l3_mem hj
    refine h2 j.toNat (by omega) ?_
    cases r with
    | zero =>
      exfalso
      have hmk : s.mdI (k : Int) = false := by simpa [sst, gst] using hs
      rw [l3_free hok hkn hmk] at hj
      cases hj
    | succ r =>
      have hs2 : gst (chM s) (fun k => !s.mdI k) (r + 1) (k : Int) = true := hs
      rw [gst, Bool.or_eq_true, List.all_eq_true] at hs2
      show gst (chM s) (fun k => !s.mdI k) r ((j.toNat : Nat) : Int) = true
      rw [show ((j.toNat : Nat) : Int) = j by omega]
      rcases hs2 with hs2 | hs2
      · exfalso
        have hmk : s.mdI (k : Int) = false := by simpa using hs2
        rw [l3_free hok hkn hmk] at hj
        cases hj
      · exact hs2 j hjc
  refine ⟨fun i hi hD => ?_, fun i hi hs => ?_, fun i hik hi hs => ?_⟩
  · by_cases hk : i = k
    · subst hk
      have hD2 : (if i = i then b else D i) = true := hD
      rw [if_pos rfl] at hD2
      exact hsound hD2
    · have hD2 : (if i = k then b else D i) = true := hD
      rw [if_neg hk] at hD2
      exact h1 i hi hD2
  · by_cases hk : i = k
    · subst hk
      show (if i = i then b else D i) = true
      rw [if_pos rfl]
      exact hcomp (sst_succ hs)
    · show (if i = k then b else D i) = true
      rw [if_neg hk]
      exact h2 i hi hs
  · by_cases hk : i = k
    · subst hk
      show (if i = i then b else D i) = true
      rw [if_pos rfl]
      exact hcomp hs
    · show (if i = k then b else D i) = true
      rw [if_neg hk]
      exact h3 i (by omega) hi hs

noncomputable def safeB (s : Sh) : Bool := s.ok && (List.range s.m.length).all fun (i : Nat) => okM s (i : Int)
theorem SRel.last {s : Sh} {D : Nat → Bool} (h : SRel s (s.m.length + 1) 0 D) {i : Nat} (hi : i < s.m.length) : D i = okM s (i : Int) := by
  cases ho : okM s (i : Int)
  · cases hd : D i
    · rfl
    · rw [h.1 i hi hd] at ho; cases ho
  · exact h.2.1 i hi (gst_all _ _ s.m.length (fun _ hk => mdI_bd (by simpa using hk)) ho)

set_option maxRecDepth 100000 in
set_option maxHeartbeats 4000000 in
theorem specSafe_any (s : Sh) (w : World) (S0 : Nat → Prop) (a : Option Addr) (c : Nat) (a' : Option Addr) (c' : Nat) (h0 : ShAt w S0 s a c a' c') (hn : nodesL s.t ≤ 1048576) :
    Calls Try.prog 26 #[.agg #[.slice a s.m.length c, .slice a' s.t.length c']] w fun e w' => e = .returned (.bool (safeB s)) ∧ Below w.heap.size w w' := by
  obtain ⟨S, hSd⟩ : ∃ S : Nat → Prop, S = fun b => S0 b ∧ b < w.heap.size := ⟨_, rfl⟩
  have hSl : ∀ b, S b → b < w.heap.size := by rw [hSd]; exact fun b h => h.2
  have h : ShAt w S s a c a' c' := by rw [hSd]; exact h0.lim
  have HSL := Lib.hid hSl
  have K0 := Lib.hid (Ks.start (ty := 32) h)
  have HNN := Lib.hid hn
  clear h h0 hSd hSl hn
  obtain ⟨x0, x1⟩ := K0.out.box
  cases hok : s.ok
  · have HV := Lib.hid (show safeB s = false by unfold safeB; rw [hok]; rfl)
    have HO := Lib.hid hok
    clear hok
    go_enter Try.func26, Try.ntmps26
    go_wp2_with fail
    refine (specSheetOk_any s _ S a c a' c' K0.out.2 HNN.out).mono ?_
    rintro e w1 ⟨rfl, hb⟩
    rw [HO.out]
    have K1 := Lib.hid (K0.out.step hb)
    clear hb x0 x1
    go_wp2_with fail
    go_ret
    exact ⟨ret_bool HV.out.symm, K1.out.done⟩
  · have hm10 : s.m.length ≤ 10 := (Sh.ok_iff.1 hok).1
    have HO := Lib.hid hok
    obtain ⟨n, hnn⟩ : ∃ n, n = s.m.length := ⟨_, rfl⟩
    have HN := Lib.hid hnn
    have hn10 : n ≤ 10 := by omega
    obtain ⟨i0, hi, hz0, hz1, hz2⟩ := info_parts infoBool
    have hmk := fun W => run_make_rowN (P := Try.prog) 22 4 i0 _ Try.underlying22 hi hz0 .i64 .i64 n n (Nat.le_refl _) (by rw [hz2]; omega) (by omega) W
    rw [hz1] at hmk
    clear hok hm10
    go_enter Try.func26, Try.ntmps26
    go_wp2_with fail
    refine (specSheetOk_any s _ S a c a' c' K0.out.2 HNN.out).mono ?_
    rintro e w1 ⟨rfl, hb⟩
    rw [HO.out]
    have K1 := Lib.hid (K0.out.step hb)
    clear hb x0 x1
    obtain ⟨x0, x1⟩ := K1.out.box
    rw [← hnn] at x0 ⊢
    have hwl : w.heap.size < w1.heap.size := by have := K1.out.size; omega
    clear hnn
    go_wp2_with fail
    clear hmk
    have hT0 := truN_made w1 n
    have K2 := Lib.hid (K1.out.alloc (.cells (madeCells #[.bool false] n) 4))
    have hs2 : (w1.alloc (.cells (madeCells #[.bool false] n) 4)).heap.size = w1.heap.size + 1 := by simp
    obtain ⟨W, hW⟩ : ∃ W, W = w1.alloc (.cells (madeCells #[.bool false] n) 4) := ⟨_, rfl⟩
    obtain ⟨gd, hgd⟩ : ∃ g, g = w1.heap.size := ⟨_, rfl⟩
    rw [← hW, ← hgd] at hT0 hs2
    rw [← hW] at K2
    rw [← hgd] at hwl
    have HW := Lib.hid (And.intro hW hgd)
    have HT0 := Lib.hid hT0
    rw [← hW, ← hgd]
    clear hT0 hW hgd K1 x0 x1 HW
    go_loopw [4] (fun v wr => ∃ (r : Nat) (D : Nat → Bool), r ≤ n + 1 ∧ v = .int .i64 r ∧ SRel s r 0 D ∧ TruN wr gd n D ∧ Ks S s a c a' c' 32 w wr) (fun v _ => n + 1 - (intOf v).toNat)
    case atStart => exact ⟨0, _, by omega, rfl, SRel.start s, HT0.out, K2.out⟩
    case round =>
      obtain ⟨r, D, hr, rfl, hrel, htr, hks⟩ := hrel
      have HREL := Lib.hid hrel
      have HTR := Lib.hid htr
      have K3 := Lib.hid hks
      clear hrel htr hks K2 HT0
      obtain ⟨x0, x1⟩ := K3.out.box
      rw [← HN.out] at x0
      have hsz3 := K3.out.size
      by_cases hrn : r ≤ n
      · have d1 : decide ((r : Int) ≤ (n : Int)) = true := decide_eq_true (by omega)
        go_wp2_with fail
        clear d1
        go_loopw [5] (fun v wr => ∃ (k : Nat) (D : Nat → Bool), k ≤ n ∧ v = .int .i64 k ∧ SRel s r k D ∧ TruN wr gd n D ∧ Ks S s a c a' c' 32 w wr) (fun v _ => n - (intOf v).toNat)
        case atStart => exact ⟨0, D, by omega, rfl, HREL.out, HTR.out, K3.out⟩
        case round =>
          obtain ⟨k, D2, hk, rfl, hrel, htr, hks⟩ := hrel
          have HREL2 := Lib.hid hrel
          have HTR2 := Lib.hid htr
          have K4 := Lib.hid hks
          clear hrel htr hks HREL HTR K3 x0 x1
          obtain ⟨x0, x1⟩ := K4.out.box
          rw [← HN.out] at x0
          have hsz4 := K4.out.size
          by_cases hkn : k < n
          · have hkm : k < s.m.length := by have := HN.out; omega
            have HKM := Lib.hid hkm
            have HL3 := Lib.hid (l3May_any s k wr S a c a' c' K4.out.2 HNN.out HO.out hkm)
            rw [← HN.out] at HL3
            clear hkm
            go_wp2_with fail
            refine HL3.out.mono ?_
            rintro e w5 ⟨v, rfl, hr5, hb5⟩
            obtain ⟨L, hL⟩ : ∃ L, L = l3L s k := ⟨_, rfl⟩
            rw [← hL] at hr5
            have hLb : ∀ x ∈ L, 0 ≤ x ∧ x < n := by rw [hL, HN.out]; exact fun x hx => (l3_mem hx).2
            obtain ⟨a5, c5, rfl, hia⟩ := hr5.at (fun x hx => by have := hLb x hx; unfold i64ok; omega)
            have hLl : L.length ≤ 9223372036854775807 := by have := hia.1; have := hia.2.1; omega
            have K5 := Lib.hid (K4.out.step hb5)
            have HTR5 := Lib.hid (HTR2.out.below hb5)
            have HI5 := Lib.hid hia
            have HLB := Lib.hid hLb
            have HL := Lib.hid hL
            clear hr5 hb5 hL hLb hia HL3 K4 HTR2 x0 x1
            go_wp2_with fail
            go_loop [6, 8] (fun f i => ∃ q : Nat, q ≤ L.length ∧ i = .int .i64 q ∧ f = .bool ((L.take q).all fun j => D2 j.toNat)) (fun _ i => L.length - (intOf i).toNat)
            case atStart => exact ⟨0, by omega, rfl, rfl⟩
            case round =>
              obtain ⟨q, hq, rfl, rfl⟩ := hrel
              by_cases hql : q < L.length
              · obtain ⟨bi, oi, rfl, hbi, _, hx⟩ := HI5.out.get (Below.refl _ _) hql
                have hxb := HLB.out L[q] (List.getElem_mem _)
                obtain ⟨xn, hxn⟩ : ∃ xn : Nat, L[q] = (xn : Int) := ⟨L[q].toNat, by omega⟩
                rw [hxn] at hx
                have hxn2 : xn < n := by omega
                obtain ⟨hc, _⟩ := HTR5.out.cell hxn2
                obtain ⟨dv, hdv⟩ : ∃ b, b = D2 xn := ⟨_, rfl⟩
                rw [← hdv] at hc
                obtain ⟨f, hf⟩ : ∃ b, b = (L.take q).all fun j => D2 j.toNat := ⟨_, rfl⟩
                rw [← hf]
                have HFS := Lib.hid (show ((L.take (q + 1)).all fun j => D2 j.toNat) = (f && dv) by
                  rw [List.take_succ_eq_append_getElem hql, List.all_append, ← hf, hdv]
                  simp [hxn])
                clear hxb hxn hdv hf
                cases f
                · go_wp2_with fail
                  go_round
                  case rel => exact ⟨q + 1, by omega, by go_num, by rw [HFS.out]; rfl⟩
                  case measure => simp [intOf]; omega
                · go_wp2_with fail
                  go_round
                  case rel => exact ⟨q + 1, by omega, by go_num, by rw [HFS.out]; rfl⟩
                  case measure => simp [intOf]; omega
              · obtain rfl : q = L.length := by omega
                obtain ⟨f, hf⟩ : ∃ b, b = (L.take L.length).all fun j => D2 j.toNat := ⟨_, rfl⟩
                rw [← hf]
                have hstep := HREL2.out.step HO.out HKM.out f (by rw [hf, List.take_of_length_le (Nat.le_refl _), HL.out])
                obtain ⟨hc, hfz⟩ := HTR5.out.cell hkn
                obtain ⟨y, hy⟩ : ∃ y, y = D2 k := ⟨_, rfl⟩
                rw [← hy] at hc
                have hset := HTR5.out.set_ k f
                have hfs : Fr (fun b => b = gd) w5 (w5.setCell ⟨gd, k, none⟩ (.bool f)) := Fr.set' (D := fun b => b = gd) (Fr.of_below (Below.refl _ _)) ⟨gd, k, none⟩ rfl _
                have H6 := Lib.hid (And.intro hstep (And.intro hset (K5.out.fr hfs (fun b hb => by omega) HSL.out)))
                clear hf hstep hset hfs hy
                go_wp2_with fail
                go_roundw
                case rel => exact ⟨k + 1, _, by omega, by go_num, H6.out.1, H6.out.2.1, H6.out.2.2⟩
                case measure => simp [intOf]; omega
          · obtain rfl : n = k := by omega
            have hnx : SRel s (r + 1) 0 D2 := (by have h := HREL2.out; rw [HN.out] at h; exact h.next)
            have HNX := Lib.hid hnx
            clear hnx
            go_wp2_with fail
            go_roundw
            case rel => exact ⟨r + 1, D2, by omega, by go_num, HNX.out, HTR2.out, K4.out⟩
            case measure => simp [intOf]; omega
      · obtain rfl : r = n + 1 := by omega
        have d1 : decide (((n + 1 : Nat) : Int) ≤ (n : Int)) = false := decide_eq_false (by omega)
        have hD : ∀ i, i < n → D i = okM s (i : Int) := fun i hi => by
          have h := HREL.out
          rw [HN.out] at h hi
          exact h.last hi
        have HD := Lib.hid hD
        clear hD hrn
        go_wp2_with fail
        clear d1
        go_loop [9] (fun v => ∃ k : Nat, k ≤ n ∧ v = .int .i64 k ∧ ∀ i, i < k → okM s (i : Int) = true) (fun v => n - (intOf v).toNat)
        case atStart => exact ⟨0, by omega, rfl, fun i hi => by omega⟩
        case round =>
          obtain ⟨k, hk, rfl, hall⟩ := hrel
          have HALL := Lib.hid hall
          clear hall
          by_cases hkn : k < n
          · obtain ⟨hc, _⟩ := HTR.out.cell hkn
            rw [HD.out k hkn] at hc
            cases ho : okM s (k : Int)
            · rw [ho] at hc
              have HV := Lib.hid (show safeB s = false by
                unfold safeB
                cases hx : (List.range s.m.length).all fun (i : Nat) => okM s (i : Int)
                · rw [Bool.and_false]
                · rw [List.all_eq_true] at hx
                  rw [hx k (List.mem_range.2 (by rw [← HN.out]; exact hkn))] at ho
                  cases ho)
              clear ho
              go_wp2_with fail
              go_ret
              exact ⟨ret_bool HV.out.symm, K3.out.done⟩
            · rw [ho] at hc
              have HO2 := Lib.hid ho
              clear ho
              go_wp2_with fail
              go_round
              case rel => exact ⟨k + 1, by omega, by go_num, fun i hi => by
                by_cases hik : i = k
                · rw [hik]; exact HO2.out
                · exact HALL.out i (by omega)⟩
              case measure => simp [intOf]; omega
          · have HV := Lib.hid (show safeB s = true by
              unfold safeB
              rw [HO.out, Bool.true_and, List.all_eq_true]
              intro i hi
              rw [List.mem_range, ← HN.out] at hi
              exact HALL.out i (by omega))
            go_wp2_with fail
            go_ret
            exact ⟨ret_bool HV.out.symm, K3.out.done⟩
end Go.Proofs.Ytochgmbeomfkpaa
