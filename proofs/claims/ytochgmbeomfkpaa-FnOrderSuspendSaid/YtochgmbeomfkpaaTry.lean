/- (*keyNode).try and what it hands to reckon -/
import Derived.Test.YtochgmbeomfkpaaSettle
import Derived.Test.YtochgmbeomfkpaaBs1
import Derived.Test.YtochgmbeomfkpaaBs2
import Derived.Shelf.Abstract
namespace Go.Proofs.Ytochgmbeomfkpaa
open Go.RowKit

/-- A key that is not done, or not looked at. -/
def tp (s : Sh) (n i : Nat) (d : Int → Bool) (k : Int) : Bool := (s.tk i).may k && decide (k < n) && !d k
/-- What the task of key i is given for a key. -/
def tv (s : Sh) (n i : Nat) (v : Int → Int) (k : Int) : Int := if ((s.tk i).may k && decide (k < n)) = true then v k else 0
def msv (g : Nat) (o : Option Int) : Value := match o with
  | some j => ndP g j
  | none => .pointer none

/-- Where the reckoning of key i stands, behind these keys. -/
def TryI (S : Nat → Prop) (s : Sh) (g n i bn bm : Nat) (v : Int → Int) (d : Int → Bool) (ks : List Int) (D : Nat → Prop) (w : World) : Prop :=
  (∀ b, D b ↔ b = bm) ∧ Nds w S s g n (mpv s g n) v d ∧ Blk w bn 74 #[.pointer (some ⟨g + i, 0, none⟩)] ∧ Blk w bm 74 #[msv g (ks.find? (tp s n i d))]

theorem Blk.one {w : World} {g : Nat} {t : TypeId} {x : Value} (h : Blk w g t #[x]) : w.cell? ⟨g, 0, none⟩ = some x ∧ w.frozen? ⟨g, 0, none⟩ = false := ⟨h.cell 0, h.frozen 0⟩

set_option maxRecDepth 100000 in
set_option maxHeartbeats 2000000 in
theorem tryF_any (S : Nat → Prop) (s : Sh) (g n i bn bm : Nat) (v : Int → Int) (d : Int → Bool) (ks : List Int) (D : Nat → Prop) (w : World) (k : Int) (h0 : 0 ≤ k) (h9 : k ≤ 9) (hi : i < n) (hS : ∀ b, S b → b < g) (hbn : g + n ≤ bn) (hbm : bn < bm) (h : TryI S s g n i bn bm v d ks D w) :
    Calls Try.prog 77 #[.int .i64 k, .pointer (some ⟨bn, 0, none⟩), .pointer (some ⟨bm, 0, none⟩)] w fun e w' => e = .returned (.int .i64 (tv s n i v k)) ∧ TryI S s g n i bn bm v d (ks ++ [k]) D w' ∧ Fr D w w' := by
  obtain ⟨kn, rfl⟩ : ∃ kn : Nat, k = kn := ⟨k.toNat, by omega⟩
  obtain ⟨hD, hN, hb1, hb2⟩ := h
  obtain ⟨a, c, hgi, _, _, _, _, hp, _, _, _, _⟩ := hN.node hi
  have hpk := hp kn (by omega)
  obtain ⟨x1, _⟩ := hb1.one
  obtain ⟨x2, f2⟩ := hb2.one
  have HD := Lib.hid hD
  have HN := Lib.hid hN
  have HB := Lib.hid (And.intro hb1 hb2)
  have HS := Lib.hid hS
  clear hD hN hb1 hb2 hp hS
  by_cases hc : ((s.tk i).may (kn : Int) && decide (kn < n)) = true
  · have hkn : (s.tk i).may (kn : Int) = true ∧ kn < n := by simpa using hc
    have hv : tv s n i v kn = v kn := by unfold tv; rw [if_pos (by simpa using hkn)]
    have hpv : mpv s g n i kn = .pointer (some ⟨g + kn, 0, none⟩) := by unfold mpv; rw [if_pos hc]
    rw [hpv] at hpk
    obtain ⟨_, _, hgk, _, _, _, _, _, e14, e15, _, _⟩ := HN.out.node hkn.2
    obtain ⟨dk, hdk⟩ : ∃ b, b = d kn := ⟨_, rfl⟩
    obtain ⟨vk, hvk⟩ : ∃ x, x = v kn := ⟨_, rfl⟩
    rw [← hdk] at e15
    rw [hv, ← hvk]
    rw [← hvk] at e14
    have htp : tp s n i d kn = !dk := by unfold tp; rw [hdk]; simp [hkn]
    have HDK := Lib.hid htp
    have hkl := hkn.2
    clear hc hpv hdk hkn hv hvk htp
    cases dk
    · cases ho : ks.find? (tp s n i d) with
      | none =>
        have HX := Lib.hid (show (ks ++ [(kn : Int)]).find? (tp s n i d) = some (kn : Int) by rw [List.find?_append, ho]; simp [HDK.out])
        rw [ho] at x2
        simp only [msv] at x2
        clear ho
        go_enter Try.func77, Try.ntmps77
        go_wp2_with fail
        go_ret
        refine ⟨rfl, ⟨HD.out, ?_, HB.out.1.far (by simp; omega) _, ?_⟩, (Fr.of_below (Below.refl _ _)).set' _ ((HD.out _).2 rfl) _⟩
        · exact HN.out.fr (D := fun b => b = bm) (Fr.set' (D := fun b => b = bm) (Fr.of_below (Below.refl _ _)) ⟨bm, 0, none⟩ rfl _) (fun b hb => by rintro (h | h) <;> first | (have := HS.out b h; omega) | omega)
        · rw [HX.out]
          exact HB.out.2.set_ 0 _
      | some j =>
        have HX := Lib.hid (show (ks ++ [(kn : Int)]).find? (tp s n i d) = ks.find? (tp s n i d) by rw [List.find?_append, ho]; simp)
        rw [ho] at x2
        simp only [msv, ndP] at x2
        clear ho
        go_enter Try.func77, Try.ntmps77
        go_wp2_with fail
        go_ret
        exact ⟨rfl, ⟨HD.out, HN.out, HB.out.1, by rw [HX.out]; exact HB.out.2⟩, Fr.of_below (Below.refl _ _)⟩
    · have HX := Lib.hid (show (ks ++ [(kn : Int)]).find? (tp s n i d) = ks.find? (tp s n i d) by rw [List.find?_append]; simp [HDK.out])
      clear x2
      go_enter Try.func77, Try.ntmps77
      go_wp2_with fail
      go_ret
      exact ⟨rfl, ⟨HD.out, HN.out, HB.out.1, by rw [HX.out]; exact HB.out.2⟩, Fr.of_below (Below.refl _ _)⟩
  · have hpv : mpv s g n i kn = .pointer none := by unfold mpv; rw [if_neg hc]
    have hv : tv s n i v kn = 0 := by unfold tv; rw [if_neg (by simpa using hc)]
    have htp : tp s n i d kn = false := by
      unfold tp
      have : ((s.tk i).may (kn : Int) && decide ((kn : Int) < n)) = false := by simpa using hc
      rw [this]; rfl
    rw [hpv] at hpk
    rw [hv]
    have HX := Lib.hid (show (ks ++ [(kn : Int)]).find? (tp s n i d) = ks.find? (tp s n i d) by rw [List.find?_append]; simp [htp])
    clear hc hpv hv htp x2
    go_enter Try.func77, Try.ntmps77
    go_wp2_with fail
    go_ret
    exact ⟨rfl, ⟨HD.out, HN.out, HB.out.1, by rw [HX.out]; exact HB.out.2⟩, Fr.of_below (Below.refl _ _)⟩

theorem try_fetcher (S : Nat → Prop) (s : Sh) (g n i bn bm : Nat) (v : Int → Int) (d : Int → Bool) (hi : i < n) (hS : ∀ b, S b → b < g) (hbn : g + n ≤ bn) (hbm : bn < bm) (hv : ∀ k, 0 ≤ v k ∧ v k ≤ 96) :
    Fetcher 77 #[.pointer (some ⟨bn, 0, none⟩), .pointer (some ⟨bm, 0, none⟩)] (tv s n i v) (TryI S s g n i bn bm v d) where
  call := by
    intro ks D w k h0 h9 _ h
    refine (tryF_any S s g n i bn bm v d ks D w k h0 h9 hi hS hbn hbm h).mono ?_
    rintro e w' ⟨rfl, h1, h2⟩
    exact ⟨rfl, D, h1, h2, fun b hb => .inl hb⟩
  below := by
    rintro ks D w w' ⟨hD, h1, h2, h3⟩ hb
    exact ⟨hD, h1.below hb, h2.below hb h2.lt, h3.below hb h3.lt⟩
  bd k := by
    unfold tv
    split
    · exact hv k
    · omega
  lt := by
    rintro ks D w ⟨hD, _, _, h3⟩ b hb
    rw [(hD b).1 hb]; exact h3.lt
  enters := enters_of Try.func77 (by kernel_rfl) rfl

theorem find_congr {p q : Int → Bool} : ∀ {l : List Int}, (∀ x ∈ l, p x = q x) → l.find? p = l.find? q
  | [], _ => rfl
  | x :: r, h => by
    rw [List.find?_cons, List.find?_cons, h x (by simp), find_congr (l := r) (fun y hy => h y (by simp [hy]))]
theorem Sh.tk_ok {s : Sh} (h : s.ok = true) (i : Nat) : (s.tk i).ok = true := by
  by_cases hi : i < s.t.length
  · have e : s.tk i = s.t[i] := getD_len hi
    rw [e]
    obtain ⟨_, h2, h3⟩ := Sh.ok_iff.1 h
    have hk := h3 i (by omega)
    unfold Sh.kok kOk at hk
    rw [e] at hk
    split at hk
    · exact hk
    · exact zt_ok hk
  · have e : s.tk i = .mk 0 0 [] := by unfold Sh.tk; rw [List.getD_eq_getElem?_getD, List.getElem?_eq_none (by omega)]; rfl
    rw [e]; rfl
theorem Sh.tk_fit {s : Sh} (h : s.ok = true) (i : Nat) : (s.tk i).fit = true ∧ (s.tk i).nodes ≤ 15 := by
  have := s.tk_ok h i
  simpa [T.ok] using this

/-- What the closure of a try gives is what the values of keys give, up to the first key that is not done. -/
theorem try_keys {s : Sh} {n i : Nat} {d : Int → Bool} {v vs : Int → Int} (hf : (s.tk i).fit = true) (hd : ∀ k, d k = true → k < n → v k = vs k) (hz : ∀ k, (n : Int) ≤ k → vs k = 0 ∧ d k = true) :
    ((s.tk i).kys (tv s n i v)).find? (tp s n i d) = ((s.tk i).kys vs).find? (fun j => !d j) ∧
    (((s.tk i).kys vs).find? (fun j => !d j) = none → (s.tk i).val (tv s n i v) = (s.tk i).val vs) := by
  have hm1 := kys_may (tv s n i v) (s.tk i) hf
  have hm2 := kys_may vs (s.tk i) hf
  obtain ⟨h1, h2⟩ := pre_keys (fun k => d k && (s.tk i).may k) vs (tv s n i v) (fun k hk => by
    rw [Bool.and_eq_true] at hk
    unfold tv
    by_cases hkn : k < n
    · rw [hk.2, decide_eq_true hkn, if_pos (by decide)]; exact hd k hk.1 hkn
    · rw [decide_eq_false hkn, Bool.and_false, if_neg (by decide)]; exact (hz k (by omega)).1.symm) (s.tk i) hf
  have e1 : ((s.tk i).kys (tv s n i v)).find? (tp s n i d) = ((s.tk i).kys (tv s n i v)).find? (fun j => !(d j && (s.tk i).may j)) := by
    refine find_congr fun k hk => ?_
    unfold tp
    rw [hm1 k hk]
    by_cases hkn : k < n
    · rw [decide_eq_true hkn]; simp
    · rw [(hz k (by omega)).2, decide_eq_false hkn]; rfl
  have e2 : ((s.tk i).kys vs).find? (fun j => !(d j && (s.tk i).may j)) = ((s.tk i).kys vs).find? (fun j => !d j) := by
    refine find_congr fun k hk => ?_
    rw [hm2 k hk, Bool.and_true]
  refine ⟨by rw [e1, h1, e2], fun hno => ?_⟩
  refine (h2 fun k hk => ?_).1
  have := List.find?_eq_none.1 hno k hk
  rw [hm2 k hk, Bool.and_true]
  simpa using this

set_option maxRecDepth 100000 in
set_option maxHeartbeats 4000000 in
theorem try_any (S : Nat → Prop) (s : Sh) (g n : Nat) (iv vs : Int → Int) (d : Int → Bool) (w : World) (i : Nat) (hi : i < n) (hok : s.ok = true) (hS : ∀ b, S b → b < g) (hiv : ∀ k, 0 ≤ iv k ∧ iv k ≤ 96) (hvs : ∀ k, 0 ≤ vs k ∧ vs k ≤ 96) (hz : ∀ k, (n : Int) ≤ k → vs k = 0 ∧ d k = true)
    (hval : ((s.tk i).kys vs).find? (fun j => !d j) = none → (s.tk i).val vs = vs i) (h : Nds w S s g n (mpv s g n) (fun k => if d k = true then vs k else iv k) d) :
    Calls Try.prog 52 #[.pointer (some ⟨g + i, 0, none⟩)] w (StPost S s g n (fun d k => if d k = true then vs k else iv k) (fun k => (s.tk k.toNat).kys vs) d i w) := by
  obtain ⟨hfit, hnod⟩ := Sh.tk_fit hok i
  obtain ⟨hk1, hk2⟩ := try_keys (s := s) (n := n) (i := i) (d := d) (v := fun k => if d k = true then vs k else iv k) (vs := vs) hfit (fun k hk _ => by simp only [hk, if_true]) hz
  obtain ⟨v, hv⟩ : ∃ v : Int → Int, v = fun k => if d k = true then vs k else iv k := ⟨_, rfl⟩
  rw [← hv] at h hk1 hk2
  have hvb : ∀ k, 0 ≤ v k ∧ v k ≤ 96 := fun k => by
    rw [hv]
    simp only
    split
    · exact hvs k
    · exact hiv k
  obtain ⟨w0, hw0⟩ : ∃ w0, w0 = (w.alloc (.cells #[.pointer (some ⟨g + i, 0, none⟩)] 74)).alloc (.cells #[.pointer none] 74) := ⟨_, rfl⟩
  have hN0 : Nds w0 S s g n (mpv s g n) v d := by rw [hw0]; exact (h.alloc _).alloc _
  have hb1 : Blk w0 w.heap.size 74 #[.pointer (some ⟨g + i, 0, none⟩)] := by rw [hw0]; exact (Blk.new w _ _).alloc _
  have hb2 : Blk w0 (w.heap.size + 1) 74 #[.pointer none] := by rw [hw0]; have := Blk.new (w.alloc (.cells #[.pointer (some ⟨g + i, 0, none⟩)] 74)) 74 #[.pointer none]; simpa using this
  have hB0 : Below w.heap.size w w0 := by rw [hw0]; exact ((Below.refl _ _).alloc (Nat.le_refl _) _).alloc (by simp) _
  have hgn : g + n ≤ w.heap.size := by
    obtain ⟨_, _, hl, _⟩ := h.node (i := n - 1) (by omega)
    omega
  obtain ⟨a, c, hgi, _, y1, y2, y3, _, _, _, _, _⟩ := h.node hi
  have hat : AtS w0 S (s.tk i).ps a c := by
    obtain ⟨_, _, _, _, _, _, z3, _, _, _, _, hat⟩ := hN0.node hi
    have e := (Below.cell (p := ⟨g + i, 3, none⟩) hB0 hgi).trans y3
    rw [z3] at e
    injection e with e
    injection e with e1 e2 e3
    subst e1 e3
    exact hat
  have hI : TryI S s g n i w.heap.size (w.heap.size + 1) v d [] (fun b => b = w.heap.size + 1) w0 := ⟨fun _ => Iff.rfl, hN0, hb1, hb2⟩
  have hs0 : w0.heap.size = w.heap.size + 1 + 1 := by rw [hw0]; simp
  have HI := Lib.hid hI
  have HA := Lib.hid hat
  have HF := Lib.hid (try_fetcher S s g n i w.heap.size (w.heap.size + 1) v d hi hS hgn (by omega) hvb)
  have HK := Lib.hid (And.intro hk1 hk2)
  have HT := Lib.hid (And.intro hfit hnod)
  have HS := Lib.hid hS
  have HV := Lib.hid hv
  have HW := Lib.hid hw0
  have HB0 := Lib.hid hB0
  have HVL := Lib.hid hval
  have HOK := Lib.hid hok
  clear h hN0 hb1 hb2 hB0 hat hI hk1 hk2 hfit hnod hS hv hiv hvs hz hw0 hval hok hvb
  have hmf : ∀ (fn : Fn) (first cap : Array Value) (w : World), (Instr.makeFunc fn first cap).run Try.prog w = .ok (.func fn first cap) w := fun _ _ _ _ => rfl
  go_enter Try.func52, Try.ntmps52
  go_wp2_with fail
  rw [← HW.out]
  refine (reck_all HF.out (s.tk i) _ S a c [] _ HT.out.1 HA.out (fun b hb => by have := HS.out b hb; omega) HI.out (by have := HT.out.2; simp only [List.length_nil]; omega)).mono ?_
  rintro e w1 ⟨rfl, D1, ⟨hD1, hN1, hb1, hb2⟩, hfr, _⟩
  rw [List.nil_append, HK.out.1] at hb2
  have hs1 := hfr.size
  obtain ⟨x, hx⟩ : ∃ x, x = (s.tk i).val (tv s n i v) := ⟨_, rfl⟩
  rw [← hx]
  have HX := Lib.hid hx
  obtain ⟨x1, _⟩ := hb1.one
  obtain ⟨x2, _⟩ := hb2.one
  have HB1 := Lib.hid (show Below w.heap.size w w1 from HB0.out.trans ⟨hfr.1, hfr.2.1, hfr.2.2.1, hfr.2.2.2.1, fun b hb => hfr.2.2.2.2 b (by omega) (fun h => by omega)⟩)
  obtain ⟨_, _, hgi1, _, _, _, _, _, z14, z15, zf, _⟩ := hN1.node hi
  have f14 := zf 14
  have f15 := zf 15
  have H1 := Lib.hid (And.intro hN1 (And.intro hb1 hb2))
  have hxs : w.heap.size + 1 < w1.heap.size := by omega
  clear hD1 hN1 hb1 hb2 hfr zf hx y1 y2 y3 hmf HI HA HF hs0
  cases ho : ((s.tk i).kys vs).find? (fun j => !d j) with
  | some j =>
    have HO := Lib.hid ho
    rw [ho] at x2
    simp only [msv, ndP] at x2
    clear ho z14 z15 f14 f15
    go_wp2_with fail
    go_ret
    refine ⟨Fr.of_below HB1.out, .inl ⟨j, ?_, rfl, ?_⟩⟩
    · have := HO.out
      simpa [nxt] using this
    · have := H1.out.1
      rw [HV.out] at this
      exact this
  | none =>
    have HO := Lib.hid ho
    rw [ho] at x2
    simp only [msv] at x2
    clear ho
    go_wp2_with fail
    go_region
    go_wp2_with fail
    go_ret
    have hnd := (H1.out.1.set_done HS.out (i := i) x).drew
    have hB : ndB g n (g + i) := ⟨by omega, by omega⟩
    have hf0 : Fr (ndB g n) w w1 := Fr.of_below HB1.out
    have hxv : x = vs i := by rw [HX.out, HK.out.2 HO.out, HVL.out HO.out]
    refine ⟨((hf0.set' ⟨g + i, 14, none⟩ hB _).set' ⟨g + i, 15, none⟩ hB _).trans (D' := ndB g n) (Fr.of_below (Below.refl _ _).drew) (fun b hb => .inl hb), .inr ⟨?_, rfl, ?_⟩⟩
    · have := HO.out
      simpa [nxt] using this
    · refine hnd.congr (fun _ _ _ _ => rfl) (fun k _ => ?_) (fun k _ => rfl)
      by_cases hki : k = i
      · subst hki
        have e : upd d (k : Int) (k : Int) = true := by unfold upd; simp
        simp only [if_true, e]
        exact hxv
      · have e : upd d (i : Int) (k : Int) = d k := by unfold upd; rw [decide_eq_false (by omega), Bool.or_false]
        simp only [e]
        rw [if_neg (by omega), HV.out]
end Go.Proofs.Ytochgmbeomfkpaa
