/- slices.Contains at pairs; impl.firstFetches, impl.TraceOf, spec.l5Of, spec.TraceOf -/
import Derived.Test.YtjbggeeadodmpaaTr1
import Derived.Test.YtjbggeeadodmpaaTr2
import Derived.Test.YtjbggeeadodmpaaBs2
import Derived.BigQuiet
namespace Go.Proofs.Ytjbggeeadodmpaa
open Go.RowKit

def IndexP (l : List (Int × Int)) (p : Int × Int) (w : World) (e : Ending) (w' : World) : Prop := ∃ r : Int, e = .returned (.int .i64 r) ∧ decide (0 ≤ r) = decide (p ∈ l) ∧ Below w.heap.size w w'

theorem memP_take_succ {l : List (Int × Int)} {k : Nat} (h : k < l.length) (n : Int × Int) : n ∈ l.take (k + 1) ↔ n ∈ l.take k ∨ n = l[k] := by
  rw [List.take_succ_eq_append_getElem h, List.mem_append, List.mem_singleton]

set_option maxHeartbeats 1000000 in
theorem indexP_any (w : World) (S : Nat → Prop) (l : List (Int × Int)) (a : Option Addr) (c : Nat) (x y : Int) (h : PrsAt w S l a c) :
    Calls Try.prog 113 #[.slice a l.length c, .agg #[.int .i64 x, .int .i64 y]] w (IndexP l (x, y) w) := by
  have hlen : l.length ≤ 9223372036854775807 := RwAt.len h
  have H := Lib.hid (h.alloc (.cells #[.int .i64 x, .int .i64 y] 63))
  have B0 := Lib.hid (Blk.new w 63 #[.int .i64 x, .int .i64 y])
  have HB0 := Lib.hid ((Below.refl w.heap.size w).alloc (Nat.le_refl _) (.cells #[.int .i64 x, .int .i64 y] 63))
  clear h
  obtain ⟨W, hW⟩ : ∃ W, W = w.alloc (.cells #[.int .i64 x, .int .i64 y] 63) := ⟨_, rfl⟩
  have HWW := Lib.hid hW
  rw [← hW] at H B0 HB0
  have hWs : w.heap.size < W.heap.size := by rw [hW]; simp
  clear hW
  go_enter Try.func113, Try.ntmps113
  go_wp2_with fail
  rw [← HWW.out]
  go_loopw [8] (fun i wr => ∃ k : Nat, k ≤ l.length ∧ i = .int .i64 k ∧ ¬ (x, y) ∈ l.take k ∧ Below W.heap.size W wr) (fun i _ => l.length - (intOf i).toNat)
  case atStart => exact ⟨0, by omega, rfl, by simp, Below.refl _ _⟩
  case round =>
    obtain ⟨k, hk, rfl, hq, hb⟩ := hrel
    have HQ := Lib.hid hq
    have HB := Lib.hid hb
    obtain ⟨x0, x1, -⟩ := (B0.out.below hb hWs).two
    have HD := Lib.hid (HB0.out.trans (hb.mono (by omega)))
    clear hq hb
    by_cases hlt : k < l.length
    · obtain ⟨b, o, rfl, hbl, _, e0, e1, _, _⟩ := H.out.get HB.out hlt
      have HM := Lib.hid (memP_take_succ hlt (x, y))
      have HE := Lib.hid (List.getElem_mem hlt)
      obtain ⟨p, hp⟩ : ∃ p, p = l[k] := ⟨_, rfl⟩
      rw [← hp] at e0 e1 HM HE
      obtain ⟨p1, p2⟩ := p
      simp only at e0 e1
      clear hp
      by_cases hx : x = p1
      · by_cases hy : y = p2
        · subst hx hy
          have hrt := Lib.hid (show (x, y) ∈ l from HE.out)
          have t0 : (x == x) = true := by simp
          have t1 : (y == y) = true := by simp
          go_wp2_with fail
          go_quiet (fail)
          go_wp2_with fail
          go_ret
          exact ⟨k, rfl, by rw [decide_eq_true hrt.out, decide_eq_true (by omega)], below_drewN HD.out _⟩
        · have t0 : (x == p1) = true := by simpa using hx
          have t1 : (y == p2) = false := by simpa using hy
          have HN := Lib.hid (show ¬ (x, y) = (p1, p2) from fun e => hy (by injection e))
          clear hx hy
          go_wp2_with fail
          go_quiet (fail)
          go_wp2_with fail
          go_roundw
          case rel => exact ⟨k + 1, by omega, by go_num, fun h => (HM.out.1 h).elim HQ.out HN.out, below_drewN HB.out _⟩
          case measure => simp [intOf]; omega
      · have t0 : (x == p1) = false := by simpa using hx
        have HN := Lib.hid (show ¬ (x, y) = (p1, p2) from fun e => hx (by injection e))
        clear hx
        go_wp2_with fail
        go_quiet (fail)
        go_wp2_with fail
        go_roundw
        case rel => exact ⟨k + 1, by omega, by go_num, fun h => (HM.out.1 h).elim HQ.out HN.out, below_drewN HB.out _⟩
        case measure => simp [intOf]; omega
    · have hrf : ¬ (x, y) ∈ l := by
        have := HQ.out
        rwa [List.take_of_length_le (by omega)] at this
      have HRF := Lib.hid hrf
      clear hrf
      go_wp2_with fail
      go_ret
      exact ⟨-1, rfl, by rw [decide_eq_false HRF.out]; rfl, HD.out⟩

theorem containsP_any (w : World) (S : Nat → Prop) (l : List (Int × Int)) (a : Option Addr) (c : Nat) (x y : Int) (h : PrsAt w S l a c) :
    Calls Try.prog 110 #[.slice a l.length c, .agg #[.int .i64 x, .int .i64 y]] w fun e w' => e = .returned (.bool (decide ((x, y) ∈ l))) ∧ Below w.heap.size w w' := by
  have H := Lib.hid (h.alloc (.cells #[.int .i64 x, .int .i64 y] 63))
  have HB0 := Lib.hid ((Below.refl w.heap.size w).alloc (Nat.le_refl _) (.cells #[.int .i64 x, .int .i64 y] 63))
  obtain ⟨r, hr⟩ : ∃ r, r = decide ((x, y) ∈ l) := ⟨_, rfl⟩
  have HR := Lib.hid hr
  rw [← hr]
  clear h hr
  go_enter Try.func110, Try.ntmps110
  go_wp2_with fail
  refine (indexP_any _ S l a c x y H.out).mono ?_
  rintro e w1 ⟨q, rfl, hq, hb⟩
  have HQ := Lib.hid hq
  have HB := Lib.hid (HB0.out.trans (hb.mono (by simp)))
  clear hq hb
  go_wp2_with fail
  go_ret
  exact ⟨ret_bool (by rw [HR.out, ← HQ.out]), HB.out⟩

theorem foldl_ostep_mem : ∀ (l acc : List (Int × Int)) (p : Int × Int), p ∈ l.foldl ostep acc → p ∈ acc ∨ p ∈ l
  | [], acc, p, hp => .inl hp
  | q :: r, acc, p, hp => by
    rcases foldl_ostep_mem r _ p hp with h | h
    · unfold ostep at h
      split at h
      · exact .inl h
      · rw [List.mem_append, List.mem_singleton] at h
        rcases h with h | rfl
        · exact .inl h
        · exact .inr (by simp)
    · exact .inr (by simp [h])
theorem onceP_mem {l : List (Int × Int)} {p : Int × Int} (h : p ∈ onceP l) : p ∈ l := by
  rcases foldl_ostep_mem l [] p h with h | h
  · cases h
  · exact h

set_option maxRecDepth 100000 in
set_option maxHeartbeats 4000000 in
theorem first_any (w : World) (S : Nat → Prop) (l : List (Int × Int)) (a : Option Addr) (c : Nat) (h : PrsAt w S l a c) (hl : l.length ≤ 1000) (hcon : ∀ p ∈ l, ∀ q ∈ l, p.1 = q.1 → p = q) :
    Calls Try.prog 105 #[.slice a l.length c] w (PPost (onceP l) w) := by
  obtain ⟨iF, fi, fz0, fz1, fz2⟩ := info_parts infoFetch
  have HIF := Lib.hid (And.intro fi (And.intro fz0 (And.intro fz1 fz2)))
  have HP := Lib.hid h
  have hok : ∀ p ∈ l, i64ok p.1 ∧ i64ok p.2 := by
    intro p hp
    obtain ⟨i, hi, rfl⟩ := List.getElem_of_mem hp
    obtain ⟨_, _, _, _, _, _, _, h1, h2⟩ := h.get (Below.refl _ _) hi
    exact ⟨h1, h2⟩
  have HOK := Lib.hid hok
  have HCON := Lib.hid hcon
  have HML := Lib.hid (show maxLen = 9223372036854775807 from rfl)
  have hlm : l.length ≤ 9223372036854775807 := by omega
  have HR0 := Lib.hid (show FRow w w.heap.size (.slice none 0 0) (onceP (l.take 0)).length (pcl (onceP (l.take 0))) from World.ownsRow_nil _ _ _ _)
  clear h hok hcon fi fz0 fz1 fz2
  go_enter Try.func105, Try.ntmps105
  go_wp2_with fail
  go_loopw [3, 8] (fun v i wr => ∃ k : Nat, k ≤ l.length ∧ i = .int .i64 k ∧ FRow wr w.heap.size v (onceP (l.take k)).length (pcl (onceP (l.take k))) ∧ Below w.heap.size w wr) (fun _ i _ => l.length - (intOf i).toNat)
  case atStart => exact ⟨0, by omega, rfl, HR0.out, Below.refl _ _⟩
  case round =>
    obtain ⟨k, hk, rfl, hr, hb⟩ := hrel
    have HR := Lib.hid hr
    have HB := Lib.hid hb
    have hwr := hb.size
    clear hr hb HR0
    by_cases hlt : k < l.length
    · have hol := onceP_len (l.take k)
      have HOS := Lib.hid (onceP_snoc hlt)
      obtain ⟨b, o, rfl, hbl, _, e0, e1, _, _⟩ := HP.out.get HB.out hlt
      have hsub : ∀ p ∈ onceP (l.take k), p ∈ l := fun p hp => List.mem_of_mem_take (onceP_mem hp)
      have hmm : decide (l[k] ∈ onceP (l.take k)) = decide (l[k].1 ∈ keysOf (onceP (l.take k))) := by
        rw [Bool.eq_iff_iff, decide_eq_true_eq, decide_eq_true_eq]
        constructor
        · intro hm; exact List.mem_map.2 ⟨_, hm, rfl⟩
        · intro hm
          obtain ⟨q, hq, he⟩ := List.mem_map.1 hm
          rw [← HCON.out q (hsub q hq) l[k] (List.getElem_mem hlt) he]
          exact hq
      obtain ⟨acc, hacc⟩ : ∃ acc, acc = onceP (l.take k) := ⟨_, rfl⟩
      have hal : acc.length ≤ 1000 := by rw [hacc]; rw [List.length_take] at hol; omega
      have hokA : ∀ p ∈ acc, i64ok p.1 ∧ i64ok p.2 := fun p hp => HOK.out p (hsub p (by rw [← hacc]; exact hp))
      rw [← hacc] at HR HOS hmm
      obtain ⟨p, hp⟩ : ∃ p, p = l[k] := ⟨_, rfl⟩
      rw [← hp] at e0 e1 HOS hmm
      obtain ⟨key, val⟩ := p
      simp only at e0 e1 hmm
      have HMM := Lib.hid hmm
      obtain ⟨av, cv, rfl, hat⟩ := HR.out.prs hokA
      have HA := Lib.hid (hat.alloc (.cells #[.int .i64 key, .int .i64 val] 63))
      have HRA := Lib.hid (show FRow (wr.alloc (.cells #[.int .i64 key, .int .i64 val] 63)) w.heap.size (.slice av acc.length cv) acc.length (pcl acc) from World.ownsRow.alloc HR.out _)
      have HBA := Lib.hid (HB.out.alloc hwr (.cells #[.int .i64 key, .int .i64 val] 63))
      have HBX := Lib.hid (Blk.new wr 63 #[.int .i64 key, .int .i64 val])
      clear hol hacc hp hat hokA hsub hmm
      go_wp2_with fail
      refine (containsP_any _ _ acc av cv key val HA.out).mono ?_
      rintro e w1 ⟨rfl, hb⟩
      rw [HMM.out]
      have HR1 := Lib.hid (HRA.out.below hb)
      have HB1 := Lib.hid (HBA.out.trans (hb.mono (by simp; omega)))
      obtain ⟨y0, y1, -⟩ := (HBX.out.below hb (by simp)).two
      have hs1 := HB1.out.size
      clear hb HA HRA HBA HBX
      by_cases hm : key ∈ keysOf acc
      · have hn : onceP (l.take (k + 1)) = acc := by rw [HOS.out]; unfold ostep; rw [if_pos hm]
        have HN := Lib.hid hn
        rw [decide_eq_true hm]
        clear hm hn
        go_wp2_with fail
        go_roundw
        case rel => exact ⟨k + 1, by omega, by go_num, by rw [HN.out]; exact HR1.out, HB1.out⟩
        case measure => simp [intOf]; omega
      · have hn : onceP (l.take (k + 1)) = acc ++ [(key, val)] := by rw [HOS.out]; unfold ostep; rw [if_neg hm]
        have HN := Lib.hid hn
        rw [decide_eq_false hm]
        clear hm hn
        go_wp2_with (at_builtin; refine wpList_append_row _ rfl (.tmp 16) (.tmp 18) 23 rfl w.heap.size 63 iF (.agg #[.int .i64 0, .int .i64 0]) 2 16 Try.underlying23 HIF.out.1 HIF.out.2.1 HIF.out.2.2.1 HIF.out.2.2.2 rfl (by decide) _ acc.length ((pcl acc).map (.int .i64)) rfl (World.ownsRow.alloc HR1.out _) ⟨w1.heap.size, 0, none⟩ 1 1 [.int .i64 key, .int .i64 val] rfl rfl ?c1 ?c2 (by decide) ?c3 ?c4 ?c5 ?_)
        case c1 => exact news2 _ _ _ _
        case c2 => simp [Value.oneCell']
        case c3 => rw [HML.out]; omega
        case c4 => omega
        case c5 => simp; omega
        intro v' w2 hown hgr hnew
        have hF1 : FRow w2 w.heap.size v' (onceP (l.take (k + 1))).length (pcl (onceP (l.take (k + 1)))) := by
          rw [HN.out, pcl_append, List.length_append]
          unfold FRow
          rw [List.map_append]
          exact hown
        have hB2 : Below w.heap.size w w2 := (HB1.out.alloc hs1 _).trans (below_grown hgr (by simp; omega) (own_ge HR1.out))
        have HF1 := Lib.hid hF1
        have HB2 := Lib.hid hB2
        clear hown hgr hnew hF1 hB2 y0 y1
        go_wp2_with fail
        go_roundw
        case rel => exact ⟨k + 1, by omega, by go_num, HF1.out, HB2.out⟩
        case measure => simp [intOf]; omega
    · have hq := HR.out
      rw [List.take_of_length_le (by omega)] at hq
      have HQ := Lib.hid hq
      clear hq
      go_wp2_with fail
      go_ret
      exact ⟨_, rfl, HQ.out, HB.out⟩

theorem FetAt.prs {vs : Int → Int} {w : World} {S : Nat → Prop} {ks : List Int} {a : Option Addr} {c : Nat} (h : FetAt vs w S ks a c) (hk : ∀ k ∈ ks, i64ok k) (hv : ∀ k, i64ok (vs k)) : PrsAt w S (ks.map fun k => (k, vs k)) a c := by
  obtain ⟨h1, h2, h3⟩ := h
  refine ⟨by simpa using h1, h2, ?_⟩
  rcases h3 with rfl | ⟨b, o, ha, hb, hc⟩
  · exact .inl rfl
  · refine .inr ⟨b, o, ha, hb, fun i hi => ?_⟩
    have hi' : i < ks.length := by simpa using hi
    have := hc i hi'
    simp only [List.getElem_map]
    exact ⟨hk _ (List.getElem_mem hi'), hv _, this.1, this.2⟩
theorem pairs_con (vs : Int → Int) (ks : List Int) : ∀ p ∈ ks.map (fun k => (k, vs k)), ∀ q ∈ ks.map (fun k => (k, vs k)), p.1 = q.1 → p = q := by
  intro p hp q hq e
  obtain ⟨x, _, rfl⟩ := List.mem_map.1 hp
  obtain ⟨y, _, rfl⟩ := List.mem_map.1 hq
  simp only at e
  rw [e]

/-- What TraceOf answers. -/
def trB (key : Int) (t : T) (lv : List Int) : Bool := (t.ok && vok lv) && kin key
def trZ : Tr := ⟨0, [], 0⟩
def trO (key : Int) (t : T) (lv : List Int) : Tr := if trB key t lv = true then trOf key t (vf lv) else trZ
def TrPost (r : Tr) (b : Bool) (w : World) (e : Ending) (w' : World) : Prop := Below w.heap.size w w' ∧ ∃ v, e = .returned (.tuple #[.agg #[.int .i64 r.k, v, .int .i64 r.v], .bool b]) ∧ FRow w' w.heap.size v r.u.length (pcl r.u)

theorem vf_ok {lv : List Int} (h : vok lv = true) (k : Int) : i64ok (vf lv k) := by have := vf_bd (vok_mem h).2 k; unfold i64ok; omega

set_option maxRecDepth 100000 in
set_option maxHeartbeats 4000000 in
theorem implTraceOf_any (key : Int) (t : T) (lv : List Int) (w : World) (S S' : Nat → Prop) (a a' : Option Addr) (c c' : Nat) (hat : AtS w S t.ps a c) (hl : IntsAt w S' lv a' c') :
    Calls Try.prog 95 #[.int .i64 key, .agg #[.int .i64 t.k, .int .i64 t.n, .slice a t.ps.length c], .slice a' lv.length c'] w (TrPost (trO key t lv) (trB key t lv) w) := by
  have HA0 := Lib.hid ((hat.alloc (.cells #[.int .i64 t.k, .int .i64 t.n, .slice a t.ps.length c] 90)).alloc (.cells #[.int .i64 0, .slice none 0 0, .int .i64 0] 25))
  have HL0 := Lib.hid ((hl.alloc (.cells #[.int .i64 t.k, .int .i64 t.n, .slice a t.ps.length c] 90)).alloc (.cells #[.int .i64 0, .slice none 0 0, .int .i64 0] 25))
  have HB0 := Lib.hid ((Blk.new w 90 #[.int .i64 t.k, .int .i64 t.n, .slice a t.ps.length c]).alloc (.cells #[.int .i64 0, .slice none 0 0, .int .i64 0] 25))
  have HR0 := Lib.hid (show Blk ((w.alloc (.cells #[.int .i64 t.k, .int .i64 t.n, .slice a t.ps.length c] 90)).alloc (.cells #[.int .i64 0, .slice none 0 0, .int .i64 0] 25)) (w.heap.size + 1) 25 #[.int .i64 0, .slice none 0 0, .int .i64 0] by
    have := Blk.new (w.alloc (.cells #[.int .i64 t.k, .int .i64 t.n, .slice a t.ps.length c] 90)) 25 #[.int .i64 0, .slice none 0 0, .int .i64 0]; simpa using this)
  have HW0 := Lib.hid (show Below w.heap.size w ((w.alloc (.cells #[.int .i64 t.k, .int .i64 t.n, .slice a t.ps.length c] 90)).alloc (.cells #[.int .i64 0, .slice none 0 0, .int .i64 0] 25)) from ((Below.refl _ _).alloc (Nat.le_refl _) _).alloc (by simp) _)
  have hsz : ((w.alloc (.cells #[.int .i64 t.k, .int .i64 t.n, .slice a t.ps.length c] 90)).alloc (.cells #[.int .i64 0, .slice none 0 0, .int .i64 0] 25)).heap.size = w.heap.size + 1 + 1 := by simp
  obtain ⟨x0, x1, x2, -⟩ := HB0.out.three
  clear hat hl
  obtain ⟨W, hW⟩ : ∃ W, W = (w.alloc (.cells #[.int .i64 t.k, .int .i64 t.n, .slice a t.ps.length c] 90)).alloc (.cells #[.int .i64 0, .slice none 0 0, .int .i64 0] 25) := ⟨_, rfl⟩
  have HWW := Lib.hid hW
  rw [← hW] at HA0 HL0 HB0 HR0 HW0 hsz
  have HSZ := Lib.hid hsz
  clear hW hsz
  have zero : ∀ w1 : World, Blk w1 (w.heap.size + 1) 25 #[.int .i64 0, .slice none 0 0, .int .i64 0] → Below w.heap.size w w1 → TrPost trZ false w (.returned (.tuple #[.agg #[.int .i64 0, .slice none 0 0, .int .i64 0], .bool false])) (((w1.setCell ⟨w.heap.size + 1, 0, none⟩ (.int .i64 0)).setCell ⟨w.heap.size + 1, 1, none⟩ (.slice none 0 0)).setCell ⟨w.heap.size + 1, 2, none⟩ (.int .i64 0)) :=
    fun w1 hb hw => ⟨((hw.setCell (by simp) _).setCell (by simp) _).setCell (by simp) _, _, rfl, World.ownsRow_nil _ _ _ _⟩
  have HZ := Lib.hid zero
  clear zero
  cases hv : (t.ok && vok lv)
  · have hb : trB key t lv = false := by unfold trB; rw [hv]; rfl
    have hr : trO key t lv = trZ := by unfold trO; rw [hb, if_neg (by decide)]
    rw [hr, hb]
    have HV := Lib.hid hv
    clear hb hr hv
    go_enter Try.func95, Try.ntmps95
    go_wp2_with fail
    rw [← HWW.out]
    refine (implFetches_any t lv W S S' a a' c c' HA0.out HL0.out).mono ?_
    rintro e w1 ⟨hb, hm⟩
    rw [HV.out, if_neg (by decide)] at hm
    obtain ⟨vo, rfl, _⟩ := hm
    have hr1 := HR0.out.below hb HR0.out.lt
    have HR1 := Lib.hid hr1
    obtain ⟨y0, y1, y2, f0, f1, f2⟩ := hr1.three
    have hlt := hr1.lt
    have HW1 := Lib.hid (HW0.out.trans (hb.mono (by have := HSZ.out; omega)))
    clear hb hr1 x0 x1 x2
    go_wp2_with fail
    exact bodyPost_ret (v := .tuple #[.agg #[.int .i64 0, .slice none 0 0, .int .i64 0], .bool false]) (by simp [results, Try.results95, go_sem, y0, y1, y2]) rfl (HZ.out _ HR1.out HW1.out)
  cases hk : kin key
  · have hb : trB key t lv = false := by unfold trB; rw [hk]; simp
    have hr : trO key t lv = trZ := by unfold trO; rw [hb, if_neg (by decide)]
    rw [hr, hb]
    have HV := Lib.hid hv
    have HK := Lib.hid hk
    clear hb hr hv hk
    go_enter Try.func95, Try.ntmps95
    go_wp2_with fail
    rw [← HWW.out]
    refine (implFetches_any t lv W S S' a a' c c' HA0.out HL0.out).mono ?_
    rintro e w1 ⟨hb, hm⟩
    rw [HV.out, if_pos rfl] at hm
    obtain ⟨vo, rfl, _⟩ := hm
    have hr1 := HR0.out.below hb HR0.out.lt
    have HR1 := Lib.hid hr1
    obtain ⟨y0, y1, y2, f0, f1, f2⟩ := hr1.three
    have hlt := hr1.lt
    have HW1 := Lib.hid (HW0.out.trans (hb.mono (by have := HSZ.out; omega)))
    clear hb hr1 x0 x1 x2
    go_wp2_with (go_at_call 68; refine (isKey_any _ _).mono ?_; rw [HK.out]; rintro e w' ⟨rfl, rfl⟩)
    exact bodyPost_ret (v := .tuple #[.agg #[.int .i64 0, .slice none 0 0, .int .i64 0], .bool false]) (by simp [results, Try.results95, go_sem, y0, y1, y2]) rfl (HZ.out _ HR1.out HW1.out)
  · have hb : trB key t lv = true := by unfold trB; rw [hv, hk]; rfl
    have hr : trO key t lv = trOf key t (vf lv) := by unfold trO; rw [hb, if_pos rfl]
    rw [hr, hb]
    have hkb := kys_ok hv
    have hvl : vok lv = true := by simp only [Bool.and_eq_true] at hv; exact hv.2
    have HV := Lib.hid hv
    have HK := Lib.hid hk
    have HVL := Lib.hid hvl
    obtain ⟨ks, hks⟩ : ∃ ks, ks = t.kys (vf lv) := ⟨_, rfl⟩
    have HKS := Lib.hid hks
    rw [← hks] at hkb
    have HKB := Lib.hid hkb
    have HRR := Lib.hid (show trOf key t (vf lv) = ⟨key, onceP (ks.map fun k => (k, vf lv k)), t.val (vf lv)⟩ by unfold trOf; rw [onceP_map, hks])
    rw [HRR.out]
    have hol := onceP_len (ks.map fun k => (k, vf lv k))
    have HTV := Lib.hid (show tvV t lv = t.val (vf lv) by unfold tvV; rw [hv, if_pos rfl])
    obtain ⟨val, hval⟩ : ∃ x, x = t.val (vf lv) := ⟨_, rfl⟩
    rw [← hval] at HTV HRR ⊢
    clear hb hr hv hk hvl hks hkb hval
    go_enter Try.func95, Try.ntmps95
    go_wp2_with fail
    rw [← HWW.out]
    refine (implFetches_any t lv W S S' a a' c c' HA0.out HL0.out).mono ?_
    rintro e w1 ⟨hb, hm⟩
    rw [HV.out, if_pos rfl, ← HKS.out] at hm
    obtain ⟨vo, rfl, hrow⟩ := hm
    obtain ⟨a3, c3, rfl, hfe⟩ := hrow.at
    have HPR := Lib.hid (hfe.prs (fun k hk => by have := HKB.out.1 k hk; unfold i64ok; omega) (vf_ok HVL.out))
    have HR1 := Lib.hid (HR0.out.below hb HR0.out.lt)
    have HW1 := Lib.hid (HW0.out.trans (hb.mono (by have := HSZ.out; omega)))
    have HA1 := Lib.hid (HA0.out.below hb)
    have HL1 := Lib.hid (HL0.out.below hb)
    have hb1 := HB0.out.below hb HB0.out.lt
    have HB1 := Lib.hid hb1
    obtain ⟨y0, y1, y2, -⟩ := hb1.three
    have hs1 := hb.size
    have HS1 := Lib.hid hs1
    clear hb hrow hfe hb1 x0 x1 x2 HA0 HL0 HR0 HB0 hs1
    go_wp2_with (go_at_call 68; refine (isKey_any _ _).mono ?_; rw [HK.out]; rintro e w' ⟨rfl, rfl⟩)
    refine (implValue_any t lv w1 S S' a a' c c' HA1.out HL1.out).mono ?_
    rintro e w2 ⟨rfl, hb⟩
    rw [HTV.out, HV.out]
    have HPR2 := Lib.hid (HPR.out.below hb)
    have HR2 := Lib.hid (HR1.out.below hb HR1.out.lt)
    have HW2 := Lib.hid (HW1.out.trans (hb.mono HW1.out.size))
    have HS2 := Lib.hid (Nat.le_trans HS1.out hb.size)
    clear hb y0 y1 y2 HA1 HL1 HPR HR1 HW1 HB1
    go_wp2_with fail
    have hml : (ks.map fun k => (k, vf lv k)).length = ks.length := by simp
    have hfirst := first_any w2 _ (ks.map fun k => (k, vf lv k)) a3 c3 HPR2.out (by rw [hml]; have := HKB.out.2; omega) (pairs_con _ _)
    rw [hml] at hfirst
    refine hfirst.mono ?_
    rintro e w3 ⟨v, rfl, hfr, hb⟩
    have hr3 := HR2.out.below hb HR2.out.lt
    obtain ⟨y0, y1, y2, f0, f1, f2⟩ := hr3.three
    have hlt := hr3.lt
    have HF := Lib.hid (ownsRow_low hfr (show w.heap.size + 1 + 1 ≤ w2.heap.size by have := HSZ.out; have := HS2.out; omega))
    have HW3 := Lib.hid (HW2.out.trans (hb.mono HW2.out.size))
    obtain ⟨av, cv, rfl⟩ := own_shape' hfr
    clear hb hfr hr3 hfirst hml
    go_wp2_with fail
    refine bodyPost_ret (v := .tuple #[.agg #[.int .i64 key, .slice av (onceP (ks.map fun k => (k, vf lv k))).length cv, .int .i64 val], .bool true]) (by simp [results, Try.results95, go_sem, y0, y1, y2]) rfl ?_
    refine ⟨((HW3.out.setCell (by simp) _).setCell (by simp) _).setCell (by simp) _, _, rfl, ?_⟩
    have hfr : Fr (fun b => b = w.heap.size + 1) w3 w3 := Fr.of_below (Below.refl _ _)
    exact ownsRow_low (FRow.fr HF.out (((hfr.set' ⟨w.heap.size + 1, 0, none⟩ rfl _).set' ⟨w.heap.size + 1, 1, none⟩ rfl _).set' ⟨w.heap.size + 1, 2, none⟩ rfl _) (fun b hb => by omega)) (by omega)
end Go.Proofs.Ytjbggeeadodmpaa
