/- impl.sheetNodes -/
import Derived.Test.YtochgmbeomfkpaaTry
import Derived.Test.YtochgmbeomfkpaaBs2
namespace Go.Proofs.Ytochgmbeomfkpaa
open Go.RowKit

theorem infoPtr : (Try.prog.info? 74).map (fun i => (i.zero, i.size, i.bytes)) = some (some (.pointer none), 1, 8) := by kernel_rfl

/-- Whether a key is made; its value as an input. -/
def Sh.mdI (s : Sh) (k : Int) : Bool := decide (0 ≤ k) && s.md k.toNat
theorem mdI_nat (s : Sh) (k : Nat) : s.mdI (k : Int) = s.md k := by unfold Sh.mdI; simp

/-- A block with n pointers, of which the first k are those of nodes. -/
def PRow (w : World) (b g n k : Nat) : Prop := ∃ cs : Array Value, Blk w b 74 cs ∧ cs.size = n ∧ ∀ i, i < k → cs[i]? = some (ndP g (i : Int))

/-- What stands in the nodes while they are linked: those below i are done, of i the first q. -/
def mq (s : Sh) (g n i q : Nat) : Nat → Nat → Value := fun i' j => if i' < i then mpv s g n i' j else if i' = i ∧ (j : Int) ∈ (mayI (s.tk i) 10).take q ∧ j < n then ndP g (j : Int) else .pointer none

theorem mq_zero (s : Sh) (g n : Nat) : mq s g n 0 0 = fun _ _ => .pointer none := by
  funext i' j
  unfold mq
  simp
theorem mq_next {s : Sh} {g n i q : Nat} (hq : (mayI (s.tk i) 10).length ≤ q) : ∀ i' j : Nat, j < 10 → mq s g n i q i' j = mq s g n (i + 1) 0 i' j := by
  intro i' j hj
  unfold mq
  rw [List.take_of_length_le hq]
  by_cases h1 : i' < i
  · rw [if_pos h1, if_pos (by omega)]
  · rw [if_neg h1]
    by_cases h2 : i' = i
    · subst h2
      rw [if_pos (show i' < i' + 1 by omega)]
      unfold mpv
      by_cases h3 : (j : Int) ∈ mayI (s.tk i') 10 ∧ j < n
      · rw [if_pos ⟨rfl, h3⟩]
        have := (mayI_mem.1 h3.1).2.2
        rw [this, decide_eq_true h3.2]
        simp [ndP]
      · rw [if_neg (fun h => h3 h.2), if_neg]
        intro hc
        rw [Bool.and_eq_true, decide_eq_true_eq] at hc
        exact h3 ⟨mayI_mem.2 ⟨by omega, by omega, hc.1⟩, hc.2⟩
    · rw [if_neg (fun h => h2 h.1), if_neg (by omega), if_neg]
      rintro ⟨_, h, _⟩
      simp at h
theorem mq_skip {s : Sh} {g n i q : Nat} (hq : q < (mayI (s.tk i) 10).length) (hk : ¬ (mayI (s.tk i) 10)[q] < n) : mq s g n i q = mq s g n i (q + 1) := by
  funext i' j
  unfold mq
  rw [List.take_succ_eq_append_getElem hq]
  have e : ((j : Int) ∈ (mayI (s.tk i) 10).take q ++ [(mayI (s.tk i) 10)[q]] ∧ j < n) ↔ ((j : Int) ∈ (mayI (s.tk i) 10).take q ∧ j < n) := by
    rw [List.mem_append, List.mem_singleton]
    constructor
    · rintro ⟨h | h, hj⟩
      · exact ⟨h, hj⟩
      · exfalso; apply hk; rw [← h]; omega
    · rintro ⟨h, hj⟩; exact ⟨.inl h, hj⟩
  simp only [e]
theorem mq_put {s : Sh} {g n i q kn : Nat} (hq : q < (mayI (s.tk i) 10).length) (hk : (mayI (s.tk i) 10)[q] = (kn : Int)) (hn : kn < n) (i' j : Nat) :
    (if i' = i ∧ j = kn then ndP g (kn : Int) else mq s g n i q i' j) = mq s g n i (q + 1) i' j := by
  unfold mq
  rw [List.take_succ_eq_append_getElem hq, hk]
  by_cases h1 : i' = i ∧ j = kn
  · obtain ⟨rfl, rfl⟩ := h1
    rw [if_pos ⟨rfl, rfl⟩, if_neg (by omega), if_pos ⟨rfl, by simp, hn⟩]
  · rw [if_neg h1]
    by_cases h2 : i' < i
    · rw [if_pos h2, if_pos h2]
    · rw [if_neg h2, if_neg h2]
      have e : (i' = i ∧ (j : Int) ∈ (mayI (s.tk i) 10).take q ++ [(kn : Int)] ∧ j < n) ↔ (i' = i ∧ (j : Int) ∈ (mayI (s.tk i) 10).take q ∧ j < n) := by
        rw [List.mem_append, List.mem_singleton]
        constructor
        · rintro ⟨h, h3 | h3, hj⟩
          · exact ⟨h, h3, hj⟩
          · exact absurd ⟨h, by omega⟩ h1
        · rintro ⟨h, h3, hj⟩; exact ⟨h, .inl h3, hj⟩
      simp only [e]

theorem ndc_set (i : Nat) (t : T) (a : Option Addr) (c : Nat) (m : Nat → Value) (v : Int) (d : Bool) (j : Nat) (hj : j < 10) (x : Value) :
    (ndc i t a c m v d).setIfInBounds (4 + j) x = ndc i t a c (fun q => if q = j then x else m q) v d := by
  match j, hj with
  | 0, _ => rfl
  | 1, _ => rfl
  | 2, _ => rfl
  | 3, _ => rfl
  | 4, _ => rfl
  | 5, _ => rfl
  | 6, _ => rfl
  | 7, _ => rfl
  | 8, _ => rfl
  | 9, _ => rfl
theorem Nds.set_may {w : World} {S : Nat → Prop} {s : Sh} {g n : Nat} {m : Nat → Nat → Value} {v : Int → Int} {d : Int → Bool} (h : Nds w S s g n m v d) (hS : ∀ b, S b → b < g) (i j : Nat) (hj : j < 10) (x : Value) :
    Nds (w.setCell ⟨g + i, 4 + j, none⟩ x) S s g n (fun i' j' => if i' = i ∧ j' = j then x else m i' j') v d := fun k hk => by
  obtain ⟨a, c, h1, h2⟩ := h k hk
  refine ⟨a, c, ?_, h2.setCell (fun b hb => by have := hS b hb; simp; omega) _⟩
  by_cases hki : k = i
  · subst hki
    have h3 := h1.set_ (4 + j) x
    rw [ndc_set _ _ _ _ _ _ _ _ hj] at h3
    have e : (fun q => if q = j then x else m k q) = fun j' => if k = k ∧ j' = j then x else m k j' := by funext q; simp
    rw [e] at h3
    exact h3
  · have h3 := h1.far (p := ⟨g + i, 4 + j, none⟩) (by simp; omega) x
    have e : m k = fun j' => if k = i ∧ j' = j then x else m k j' := by funext q; simp [hki]
    rw [e] at h3
    exact h3

/-- What sheetNodes leaves. -/
def NodesPost (S : Nat → Prop) (s : Sh) (l : List Int) (w : World) (e : Ending) (w' : World) : Prop :=
  ∃ g b, e = .returned (.slice (some ⟨b, 0, none⟩) s.m.length s.m.length) ∧ w.heap.size ≤ b ∧ w.heap.size ≤ g ∧ ¬ ndB g s.m.length b ∧ PRow w' b g s.m.length s.m.length ∧ Nds w' S s g s.m.length (mpv s g s.m.length) (vf l) (fun k => !s.mdI k) ∧ Below w.heap.size w w'

set_option maxRecDepth 100000 in
set_option maxHeartbeats 4000000 in
theorem nodes_any' (s : Sh) (l : List Int) (w : World) (S0 S' : Nat → Prop) (a : Option Addr) (c : Nat) (a' : Option Addr) (c' : Nat) (ai : Option Addr) (ci : Nat) (h0 : ShAt w S0 s a c a' c') (hl0 : IntsAt w S' l ai ci) (hin : inOk s l = true) :
    Calls Try.prog 53 #[.agg #[.slice a s.m.length c, .slice a' s.t.length c'], .slice ai l.length ci] w (NodesPost (fun b => S0 b ∧ b < w.heap.size) s l w) := by
  obtain ⟨S, hSd⟩ : ∃ S : Nat → Prop, S = fun b => S0 b ∧ b < w.heap.size := ⟨_, rfl⟩
  have hSl : ∀ b, S b → b < w.heap.size := by rw [hSd]; exact fun b h => h.2
  have h : ShAt w S s a c a' c' := by rw [hSd]; exact h0.lim
  rw [← hSd]
  have hok : s.ok = true ∧ l.length = s.m.length := by
    unfold inOk at hin
    rw [Bool.and_eq_true, Bool.and_eq_true, decide_eq_true_eq] at hin
    exact ⟨hin.1, hin.2.1⟩
  obtain ⟨hm10, htl, _⟩ := Sh.ok_iff.1 hok.1
  obtain ⟨n, hn⟩ : ∃ n, n = s.m.length := ⟨_, rfl⟩
  have hll : l.length = n := by omega
  have htl' : s.t.length = n := by omega
  have K0 := Lib.hid (Ks.start (ty := 32) h)
  have L0 := Lib.hid (hl0.alloc (.cells #[.slice a s.m.length c, .slice a' s.t.length c'] 32))
  have HOK := Lib.hid hok.1
  have HSL := Lib.hid hSl
  have HN := Lib.hid hn
  have HTL := Lib.hid htl'
  have HLL := Lib.hid hll
  have hn10 : n ≤ 10 := by omega
  clear h h0 hl0 hin hok htl hSd hSl htl' hll
  obtain ⟨x0, x1⟩ := K0.out.box
  obtain ⟨i0, hi, hz0, hz1, hz2⟩ := info_parts infoPtr
  have hmk := fun W => run_make_rowN (P := Try.prog) 80 74 i0 _ Try.underlying80 hi hz0 .i64 .i64 n n (Nat.le_refl _) (by rw [hz2]; omega) (by omega) W
  rw [hz1] at hmk
  rw [← hn] at x0 ⊢
  clear hn hm10
  go_enter Try.func53, Try.ntmps53
  go_wp2_with fail
  clear hmk
  have K1 := Lib.hid (K0.out.alloc (.cells (madeCells #[.pointer none] n) 74))
  have hp1 : PRow ((w.alloc (.cells #[.slice a n c, .slice a' s.t.length c'] 32)).alloc (.cells (madeCells #[.pointer none] n) 74)) (w.heap.size + 1) (w.heap.size + 2) n 0 := by
    have hx := Blk.new (w.alloc (.cells #[.slice a n c, .slice a' s.t.length c'] 32)) 74 (madeCells #[.pointer none] n)
    simp only [World.size_alloc] at hx
    exact ⟨_, hx, by rw [size_madeCells], fun i hi => by omega⟩
  rw [← HN.out] at K1
  have hs1 : ((w.alloc (.cells #[.slice a n c, .slice a' s.t.length c'] 32)).alloc (.cells (madeCells #[.pointer none] n) 74)).heap.size = w.heap.size + 2 := by simp
  obtain ⟨W1, hW1⟩ : ∃ W, W = (w.alloc (.cells #[.slice a n c, .slice a' s.t.length c'] 32)).alloc (.cells (madeCells #[.pointer none] n) 74) := ⟨_, rfl⟩
  rw [← hW1] at K1 hp1 hs1 ⊢
  have hx0 := (K1.out.box).1
  rw [← HN.out] at hx0
  have HP1 := Lib.hid hp1
  clear hW1 K0 x0 x1 hp1
  go_wp2_with fail
  go_loopw [19] (fun i wr => ∃ k : Nat, k ≤ n ∧ i = .int .i64 k ∧ wr.heap.size = w.heap.size + 2 + k ∧ PRow wr (w.heap.size + 1) (w.heap.size + 2) n k ∧ Nds wr S s (w.heap.size + 2) k (fun _ _ => .pointer none) (vf l) (fun q => !s.mdI q) ∧ Ks S s a c a' c' 32 w wr) (fun i _ => n - (intOf i).toNat)
  case atStart => exact ⟨0, by omega, rfl, hs1, HP1.out, fun i hi => by omega, K1.out⟩
  case round =>
    obtain ⟨k, hk, rfl, hsz, hp, hnd, hks⟩ := hrel
    have HND := Lib.hid hnd
    have HKS := Lib.hid hks
    clear hx0 K1 HP1 hs1
    obtain ⟨x0, x1⟩ := hks.box
    by_cases hlt : k < n
    · obtain ⟨cs, hbk, hcs, hcl⟩ := hp
      have hmlt : k < s.m.length := by have := HN.out; omega
      have htlt : k < s.t.length := by have := HTL.out; omega
      have hllt : k < l.length := by have := HLL.out; omega
      obtain ⟨b, o, ha, hbl, _, hc⟩ := ElAt.get hks.2.1 (Below.refl _ _) hmlt
      obtain ⟨b', o', a2, c2, ha', hbl', _, e0, e1, e2, hs, _, _⟩ := hks.2.2.elem (Below.refl _ _) htlt
      have hl1 := L0.out.below (w' := wr) (by have := hks.1; exact this.mono (by simp))
      obtain ⟨bi, oi, hai, hbli, _, hci⟩ := hl1.get (Below.refl _ _) hllt
      have htk : s.tk k = s.t[k] := getD_len htlt
      have hmk2 : s.md k = s.m[k] := getD_len hmlt
      have hvk : vf l (k : Int) = l[k] := vf_in hllt
      have hf := hbk.frozen k
      have hx : wr.cell? ⟨w.heap.size + 1, k, none⟩ = some (cs[k]'(by omega)) := by rw [hbk.cell k]; simp
      obtain ⟨y, hy⟩ : ∃ y, y = cs[k]'(by omega) := ⟨_, rfl⟩
      rw [← hy] at hx
      obtain ⟨mv, hmv⟩ : ∃ v, v = s.m[k] := ⟨_, rfl⟩
      obtain ⟨lv, hlv⟩ : ∃ v, v = l[k] := ⟨_, rfl⟩
      rw [← hmv] at hc hmk2
      rw [← hlv] at hci hvk
      have HA := Lib.hid (And.intro ha (And.intro ha' hai))
      have HX := Lib.hid (And.intro htk (And.intro hmk2 (And.intro hvk hs)))
      have HC := Lib.hid (And.intro hbk (And.intro hcs hcl))
      have hwlt : w.heap.size + 1 < wr.heap.size := by omega
      clear hnd hks ha ha' hai htk hmk2 hvk hs hbk hcs hcl hy hmv hlv hl1
      obtain ⟨rfl, rfl, rfl⟩ := HA.out
      have HSZ := Lib.hid hsz
      clear hsz
      go_wp2_with fail
      go_region
      go_wp2_with fail
      obtain ⟨hbk, hcs, hcl⟩ := HC.out
      obtain ⟨htk, hmk2, hvk, hs⟩ := HX.out
      have hsz := HSZ.out
      have hks2 : Ks S s (some ⟨b, o, none⟩) c (some ⟨b', o', none⟩) c' 32 w (wr.setCell ⟨w.heap.size + 1, k, none⟩ (.pointer (some ⟨wr.heap.size, 0, none⟩))) :=
        HKS.out.fr (D := fun b => b = w.heap.size + 1) (Fr.set' (D := fun b => b = w.heap.size + 1) (Fr.of_below (Below.refl _ _)) _ rfl _) (fun b hb => by omega) HSL.out
      have hsz2 : (wr.setCell ⟨w.heap.size + 1, k, none⟩ (.pointer (some ⟨wr.heap.size, 0, none⟩))).heap.size = wr.heap.size := by simp [World.setCell]
      have hbk2 := hbk.set_ k (.pointer (some ⟨wr.heap.size, 0, none⟩))
      have hnd2 : Nds (wr.setCell ⟨w.heap.size + 1, k, none⟩ (.pointer (some ⟨wr.heap.size, 0, none⟩))) S s (w.heap.size + 2) k (fun _ _ => .pointer none) (vf l) (fun q => !s.mdI q) :=
        HND.out.fr (D := fun b => b = w.heap.size + 1) (Fr.set' (D := fun b => b = w.heap.size + 1) (Fr.of_below (Below.refl _ _)) _ rfl _) (fun b hb => by rintro (h | h) <;> first | (have := HSL.out b h; omega) | omega)
      have hs2 : AtS (wr.setCell ⟨w.heap.size + 1, k, none⟩ (.pointer (some ⟨wr.heap.size, 0, none⟩))) S s.t[k].ps a2 c2 := hs.setCell (fun b hb => by have := HSL.out b hb; simp; omega) _
      obtain ⟨W2, hW2⟩ : ∃ W, W = wr.setCell ⟨w.heap.size + 1, k, none⟩ (.pointer (some ⟨wr.heap.size, 0, none⟩)) := ⟨_, rfl⟩
      rw [← hW2] at hks2 hsz2 hbk2 hnd2 hs2 ⊢
      rw [← hsz2] at hbk2
      refine ⟨⟨k + 1, by omega, by go_num, ?_, ?_, ?_, (hks2.alloc _).drew⟩, by simp [intOf]; omega⟩
      · show (W2.alloc _).heap.size = _
        rw [World.size_alloc]; omega
      · refine ⟨_, (hbk2.alloc _).drew, by simp [hcs], fun i hi => ?_⟩
        rw [Array.getElem?_setIfInBounds]
        by_cases hik : k = i
        · subst hik
          rw [if_pos rfl, if_pos (by omega)]
          unfold ndP
          rw [hsz2, hsz]; simp
        · rw [if_neg hik]
          exact hcl i (by omega)
      · intro i hi
        by_cases hik : i = k
        · subst hik
          refine ⟨a2, c2, ?_, ?_⟩
          · rw [htk]
            show Blk _ _ _ (ndc i s.t[i] a2 c2 (fun _ => .pointer none) (vf l (i : Int)) (!s.mdI (i : Int)))
            rw [hvk, mdI_nat, hmk2]
            have hnew := (Blk.new W2 78 (ndc i s.t[i] a2 c2 (fun _ => .pointer none) lv (!mv))).drew
            rw [hsz2, hsz] at hnew
            exact hnew
          · rw [htk]
            exact (hs2.alloc _).drew
        · obtain ⟨a3, c3, h3, h4⟩ := hnd2 i (by omega)
          exact ⟨a3, c3, (h3.alloc _).drew, (h4.alloc _).drew⟩
    · obtain rfl : n = k := by omega
      obtain ⟨g, hg⟩ : ∃ g, g = w.heap.size + 2 := ⟨_, rfl⟩
      obtain ⟨bb, hbb⟩ : ∃ b, b = w.heap.size + 1 := ⟨_, rfl⟩
      rw [← hbb] at hp ⊢
      rw [← hg] at hp
      rw [← hg] at hnd
      have hgs : wr.heap.size = g + n := by omega
      have hgb : bb + 1 = g := by omega
      have hgw : bb = w.heap.size + 1 := hbb
      have HP := Lib.hid hp
      have HND2 := Lib.hid (show Nds wr S s g n (mq s g n 0 0) (vf l) (fun q => !s.mdI q) by rw [mq_zero]; exact hnd)
      have HB := Lib.hid hks.done
      have HGS := Lib.hid (And.intro hgs (And.intro hgb hgw))
      clear hks hnd hp hsz HND HKS x0 x1 hg hbb hgs hgb hgw
      go_wp2_with fail
      clear L0
      go_loopw [44] (fun i w2 => ∃ k : Nat, k ≤ n ∧ i = .int .i64 k ∧ PRow w2 bb g n n ∧ Nds w2 S s g n (mq s g n k 0) (vf l) (fun q => !s.mdI q) ∧ Below w.heap.size w w2 ∧ g + n ≤ w2.heap.size) (fun i _ => n - (intOf i).toNat)
      case atStart => exact ⟨0, by omega, rfl, HP.out, HND2.out, HB.out, by have := HGS.out; omega⟩
      case round =>
        obtain ⟨k, hk, rfl, hp, hnd, hb, hsz⟩ := hrel
        have HP2 := Lib.hid hp
        have HND3 := Lib.hid hnd
        have HB2 := Lib.hid hb
        clear HP HND2 HB hlt
        by_cases hlt : k < n
        · obtain ⟨cs, hbk, hcs, hcl⟩ := hp
          have hx : wr.cell? ⟨bb, k, none⟩ = some (.pointer (some ⟨g + k, 0, none⟩)) := by rw [hbk.cell k, hcl k hlt]; simp [ndP]
          obtain ⟨a2, c2, hgk, _, y1, y2, y3, _, _, _, zf, hat⟩ := hnd.node hlt
          have HAT := Lib.hid hat
          have hmo : mayO (s.tk k) = mayI (s.tk k) 10 := by unfold mayO; rw [if_pos (s.tk_ok HOK.out k)]
          have HMO := Lib.hid hmo
          clear hbk hcs hcl hat hmo zf hnd hb
          go_wp2_with fail
          refine (implMay_any (s.tk k) _ S a2 c2 HAT.out).mono ?_
          rintro e w3 ⟨hb, v, rfl, hr⟩
          rw [HMO.out] at hr
          obtain ⟨L, hL⟩ : ∃ L, L = mayI (s.tk k) 10 := ⟨_, rfl⟩
          have hLb : ∀ x ∈ L, 0 ≤ x ∧ x < 10 := by rw [hL]; exact fun x hx => by have := mayI_mem.1 hx; omega
          have hLl : L.length ≤ 10 := by rw [hL]; exact mayI_len _ _
          rw [← hL] at hr
          obtain ⟨a4, c4, rfl, hia⟩ := hr.at (fun x hx => by have := hLb x hx; unfold i64ok; omega)
          have hgs3 := hb.size
          have hp3 : PRow w3 bb g n n := by
            obtain ⟨cs, h1, h2, h3⟩ := HP2.out
            exact ⟨cs, h1.below hb h1.lt, h2, h3⟩
          have HR3 := Lib.hid (And.intro hp3 (And.intro (HND3.out.below hb) (And.intro (HB2.out.trans (hb.mono (by have := HB2.out.size; omega))) hia)))
          have HLB := Lib.hid hLb
          have HL := Lib.hid hL
          have hbase : g + n ≤ wr.heap.size := hsz
          clear hx y1 y2 y3 HAT hr hia hp3 hb HP2 HND3 HB2 hLb hL HMO
          go_wp2_with fail
          go_loopw [54] (fun i w4 => ∃ q : Nat, q ≤ L.length ∧ i = .int .i64 q ∧ PRow w4 bb g n n ∧ Nds w4 S s g n (mq s g n k q) (vf l) (fun q => !s.mdI q) ∧ Below w.heap.size w w4 ∧ IntsAt w4 (fun b => wr.heap.size ≤ b) L a4 c4 ∧ g + n ≤ w4.heap.size) (fun i _ => L.length - (intOf i).toNat)
          case atStart => exact ⟨0, by omega, rfl, HR3.out.1, HR3.out.2.1, HR3.out.2.2.1, HR3.out.2.2.2, by omega⟩
          case round =>
            obtain ⟨q, hq, rfl, hp, hnd, hb, hia, hsz4⟩ := hrel
            have HB4 := Lib.hid hb
            have HI4 := Lib.hid hia
            have HN4 := Lib.hid hnd
            have HP4 := Lib.hid hp
            clear HR3
            by_cases hlq : q < L.length
            · obtain ⟨bi, oi, rfl, hbli, _, hci⟩ := hia.get (Below.refl _ _) hlq
              have hbd := HLB.out L[q] (List.getElem_mem _)
              obtain ⟨kn, hkn⟩ : ∃ kn : Nat, L[q] = (kn : Int) := ⟨L[q].toNat, by omega⟩
              have hk10 : kn < 10 := by omega
              rw [hkn] at hci
              have HKN := Lib.hid hkn
              clear hnd hb hia hbd hkn
              by_cases hin : kn < n
              · obtain ⟨cs, hbk, hcs, hcl⟩ := hp
                have hx : wr.cell? ⟨bb, kn, none⟩ = some (.pointer (some ⟨g + kn, 0, none⟩)) := by rw [hbk.cell kn, hcl kn hin]; simp [ndP]
                obtain ⟨_, _, hgk, _, _, _, _, hpt, _, _, zf, _⟩ := HN4.out.node hlt
                have hx4 := hpt kn hk10
                have f4 := zf (4 + kn)
                obtain ⟨y, hy⟩ : ∃ y, y = mq s g n k q k kn := ⟨_, rfl⟩
                rw [← hy] at hx4
                clear hpt zf hy hbk hcs hcl
                go_wp2_with fail
                go_region
                go_wp2_with fail
                have hg2 := HGS.out
                have hqL : q < (mayI (s.tk k) 10).length := by rw [← HL.out]; exact hlq
                have hqk : (mayI (s.tk k) 10)[q] = (kn : Int) := by have := HKN.out; simp only [HL.out] at this; exact this
                refine ⟨⟨q + 1, by omega, by go_num, ?_, ?_, ?_, ?_, ?_⟩, by simp [intOf]; omega⟩
                · obtain ⟨cs, h1, h2, h3⟩ := HP4.out
                  exact ⟨cs, (h1.far (by simp; omega) _).drew, h2, h3⟩
                · refine (((HN4.out.set_may (fun b hb => by have := HSL.out b hb; omega) k kn hk10 (.pointer (some ⟨g + kn, 0, none⟩))).drew).congr (fun i' j _ _ => ?_) (fun _ _ => rfl) (fun _ _ => rfl))
                  rw [← mq_put hqL hqk hin i' j]
                  simp [ndP]
                · exact (HB4.out.setCell (by simp; omega) _).drew
                · exact (HI4.out.setCell (fun b hb => by simp; omega) _).drew
                · show g + n ≤ (wr.setCell _ _).heap.size
                  simpa [World.setCell] using hsz4
              · have HS := Lib.hid (show mq s g n k q = mq s g n k (q + 1) from mq_skip (by rw [← HL.out]; exact hlq) (by have := HKN.out; simp only [← HL.out]; rw [this]; omega))
                clear hp
                go_wp2_with fail
                go_roundw
                case rel => exact ⟨q + 1, by omega, by go_num, HP4.out, by rw [← HS.out]; exact HN4.out, HB4.out, HI4.out, hsz4⟩
                case measure => simp [intOf]; omega
            · have HM := Lib.hid (show ∀ i' j : Nat, j < 10 → mq s g n k q i' j = mq s g n (k + 1) 0 i' j from mq_next (by rw [← HL.out]; omega))
              clear hp hnd hb hia
              go_wp2_with fail
              go_roundw
              case rel => exact ⟨k + 1, by omega, by go_num, HP4.out, HN4.out.congr (fun i' j _ hj => HM.out i' j hj) (fun _ _ => rfl) (fun _ _ => rfl), HB4.out, hsz4⟩
              case measure => simp [intOf]; omega
        · obtain rfl : n = k := by omega
          go_wp2_with fail
          go_ret
          have hg2 := HGS.out
          have hn := HN.out
          subst hn
          exact ⟨g, bb, rfl, by omega, by omega, fun h => by have := h.1; omega, HP2.out, HND3.out.congr (fun i' j hi' _ => by unfold mq; rw [if_pos hi']) (fun _ _ => rfl) (fun _ _ => rfl), HB2.out⟩
end Go.Proofs.Ytochgmbeomfkpaa
