/- impl.leadingTo: the closure, slices.ContainsFunc with it, the rounds, the list -/
import Derived.Test.YthjfmpeicjmlkaaDkP
import Derived.Test.YthjfmpeicjmlkaaBs2
import Derived.BigQuiet
namespace Go.Proofs.Ythjfmpeicjmlkaa
open Go.RowKit

theorem TruAt.setB {w : World} {g : Nat} {e : TypeId} {m : Nat → Bool} (h : TruAt w g e m) (j : Nat) (b : Bool) : TruAt (w.setCell ⟨g, j, none⟩ (.bool b)) g e (fun i => if i = j then b else m i) := by
  obtain ⟨cs, h1, h2, h3⟩ := h
  refine ⟨_, h1.set_ j (.bool b), by simp [h2], fun i hi => ?_⟩
  rw [Array.getElem?_setIfInBounds]
  by_cases hij : j = i
  · subst hij
    rw [if_pos rfl, if_pos (by omega)]; simp
  · rw [if_neg hij, h3 i hi]
    show _ = some (Value.bool (if i = j then b else m i))
    rw [if_neg (by omega)]

/-- A key that is marked, or one of the list. -/
def onW (m : Nat → Bool) (ks : List Int) (j : Int) : Bool := m j.toNat || decide (j ∈ ks)

theorem onWay_any (w : World) (S1 : Nat → Prop) (g gk : Nat) (m : Nat → Bool) (ks : List Int) (ak : Option Addr) (ck : Nat) (j : Int) (hj : 0 ≤ j ∧ j < 10) (hm : TruAt w g 110 m) (hk : Blk w gk 23 #[.slice ak ks.length ck]) (hks : IntsAt w S1 ks ak ck) :
    Calls Try.prog 78 #[.int .i64 j, .pointer (some ⟨g, 0, none⟩), .pointer (some ⟨gk, 0, none⟩)] w fun e w' => e = .returned (.bool (onW m ks j)) ∧ w = w' := by
  obtain ⟨jn, rfl⟩ : ∃ jn : Nat, j = jn := ⟨j.toNat, by omega⟩
  have hj10 : jn < 10 := by omega
  obtain ⟨hc, _⟩ := hm.cell hj10
  have hkc := hk.cell 0
  have HKS := Lib.hid hks
  obtain ⟨v, hv⟩ : ∃ v, v = m jn := ⟨_, rfl⟩
  rw [← hv] at hc
  have HV := Lib.hid (show onW m ks (jn : Int) = (v || decide ((jn : Int) ∈ ks)) by unfold onW; rw [hv, Int.toNat_natCast])
  rw [HV.out]
  clear hv hm hk hks HV hj
  simp only [List.getElem?_toArray, List.getElem?_cons_zero] at hkc
  cases v
  · obtain ⟨r, hr⟩ : ∃ r, r = decide ((jn : Int) ∈ ks) := ⟨_, rfl⟩
    have HR := Lib.hid hr
    rw [← hr]
    clear hr
    go_enter Try.func78, Try.ntmps78
    go_wp2_with fail
    refine (contains_any w S1 ks ak ck jn HKS.out).mono ?_
    rintro e w' ⟨rfl, rfl⟩
    rw [← HR.out]
    go_wp2_with fail
    go_ret
    exact ⟨ret_bool rfl, rfl⟩
  · go_enter Try.func78, Try.ntmps78
    go_wp2_with fail
    go_ret
    exact ⟨ret_bool rfl, rfl⟩

theorem any_snoc {α : Type} (P : α → Bool) (l : List α) (k : Nat) (h : k < l.length) : (l.take (k + 1)).any P = ((l.take k).any P || P l[k]) := by
  rw [List.take_succ_eq_append_getElem h, List.any_append]; simp

theorem indexWay_any (w : World) (S S1 : Nat → Prop) (l : List Int) (a : Option Addr) (c : Nat) (g gk : Nat) (m : Nat → Bool) (ks : List Int) (ak : Option Addr) (ck : Nat) (h : IntsAt w S l a c) (hl : ∀ x ∈ l, 0 ≤ x ∧ x < 10) (hm : TruAt w g 110 m) (hk : Blk w gk 23 #[.slice ak ks.length ck]) (hks : IntsAt w S1 ks ak ck) :
    Calls Try.prog 94 #[.slice a l.length c, .func (.func 78) #[] #[.pointer (some ⟨g, 0, none⟩), .pointer (some ⟨gk, 0, none⟩)]] w fun e w' => ∃ r : Int, e = .returned (.int .i64 r) ∧ decide (0 ≤ r) = l.any (onW m ks) ∧ w = w' := by
  have hlen : l.length ≤ 9223372036854775807 := by have := h.1; have := h.2.1; omega
  have H := Lib.hid h
  have HC := Lib.hid (fun (x : Int) (hx : x ∈ l) => onWay_any w S1 g gk m ks ak ck x (hl x hx) hm hk hks)
  obtain ⟨r, hr⟩ : ∃ r, r = l.any (onW m ks) := ⟨_, rfl⟩
  have HR := Lib.hid hr
  rw [← hr]
  clear h hm hk hks hl hr
  go_enter Try.func94, Try.ntmps94
  go_wp2_with fail
  go_loop [8] (fun i => ∃ k : Nat, k ≤ l.length ∧ i = .int .i64 k ∧ (l.take k).any (onW m ks) = false) (fun i => l.length - (intOf i).toNat)
  case atStart => exact ⟨0, by omega, rfl, by simp⟩
  case round =>
    obtain ⟨k, hk, rfl, hq⟩ := hrel
    have HQ := Lib.hid hq
    clear hq
    by_cases hlt : k < l.length
    · obtain ⟨b, o, rfl, hbl, _, hc⟩ := H.out.get (Below.refl _ _) hlt
      have HM := Lib.hid (any_snoc (onW m ks) l k hlt)
      have HE := Lib.hid (List.getElem_mem hlt)
      have HCK := Lib.hid (HC.out l[k] (List.getElem_mem hlt))
      obtain ⟨v, hv⟩ : ∃ v, v = l[k] := ⟨_, rfl⟩
      rw [← hv] at hc HM HE HCK
      obtain ⟨u, hu⟩ : ∃ u, u = onW m ks v := ⟨_, rfl⟩
      have HU := Lib.hid hu
      rw [← hu] at HCK HM
      clear hv hu
      go_wp2_with fail
      refine HCK.out.mono ?_
      rintro e w1 ⟨rfl, rfl⟩
      cases u
      · go_wp2_with fail
        go_round
        case rel => exact ⟨k + 1, by omega, by go_num, by rw [HM.out, HQ.out]; rfl⟩
        case measure => simp [intOf]; omega
      · have HRT := Lib.hid (show r = true by rw [HR.out, List.any_eq_true]; exact ⟨v, HE.out, HU.out.symm⟩)
        go_wp2_with fail
        go_ret
        exact ⟨k, rfl, by rw [HRT.out, decide_eq_true (by omega)], rfl⟩
    · have HRF := Lib.hid (show r = false by have := HQ.out; rw [List.take_of_length_le (by omega)] at this; rw [HR.out, this])
      go_wp2_with fail
      go_ret
      exact ⟨-1, rfl, by rw [HRF.out]; rfl, rfl⟩

theorem containsWay_any (w : World) (S S1 : Nat → Prop) (l : List Int) (a : Option Addr) (c : Nat) (g gk : Nat) (m : Nat → Bool) (ks : List Int) (ak : Option Addr) (ck : Nat) (h : IntsAt w S l a c) (hl : ∀ x ∈ l, 0 ≤ x ∧ x < 10) (hm : TruAt w g 110 m) (hk : Blk w gk 23 #[.slice ak ks.length ck]) (hks : IntsAt w S1 ks ak ck) :
    Calls Try.prog 80 #[.slice a l.length c, .func (.func 78) #[] #[.pointer (some ⟨g, 0, none⟩), .pointer (some ⟨gk, 0, none⟩)]] w fun e w' => e = .returned (.bool (l.any (onW m ks))) ∧ w = w' := by
  have HX := Lib.hid (indexWay_any w S S1 l a c g gk m ks ak ck h hl hm hk hks)
  obtain ⟨r, hr⟩ : ∃ r, r = l.any (onW m ks) := ⟨_, rfl⟩
  rw [← hr] at HX ⊢
  clear h hl hm hk hks hr
  go_enter Try.func80, Try.ntmps80
  go_wp2_with fail
  refine HX.out.mono ?_
  rintro e w' ⟨q, rfl, hq, rfl⟩
  have HQ := Lib.hid hq
  clear hq HX
  go_wp2_with fail
  go_ret
  exact ⟨ret_bool HQ.out, rfl⟩

/-- What stands while the rounds go on. -/
structure LdI (s : Sh) (S S1 : Nat → Prop) (a : Option Addr) (c : Nat) (a' : Option Addr) (c' : Nat) (ks : List Int) (ak : Option Addr) (ck : Nat) (m : Nat → Bool) (w wr : World) : Prop where
  ksh : Ks S s a c a' c' 51 w wr
  box : Blk wr (w.heap.size + 1) 23 #[.slice ak ks.length ck]
  ints : IntsAt wr S1 ks ak ck
  tru : TruAt wr (w.heap.size + 1 + 1) 110 m
  size : w.heap.size + 1 + 1 + 1 ≤ wr.heap.size
section
variable {s : Sh} {S S1 : Nat → Prop} {a a' ak : Option Addr} {c c' ck : Nat} {ks : List Int} {m : Nat → Bool} {w wr wj : World}
theorem LdI.below (h : LdI s S S1 a c a' c' ks ak ck m w wr) (hb : Below wr.heap.size wr wj) : LdI s S S1 a c a' c' ks ak ck m w wj :=
  ⟨h.ksh.step hb, h.box.below hb h.box.lt, h.ints.below hb, h.tru.below hb, Nat.le_trans h.size hb.size⟩
theorem LdI.alloc (h : LdI s S S1 a c a' c' ks ak ck m w wr) (o : Obj) : LdI s S S1 a c a' c' ks ak ck m w (wr.alloc o) := h.below ((Below.refl _ _).alloc (Nat.le_refl _) o)
theorem LdI.set (h : LdI s S S1 a c a' c' ks ak ck m w wr) (hS : ∀ b, S b → b < w.heap.size) (hS1 : ∀ b, S1 b → b < w.heap.size) (k : Nat) (b : Bool) : LdI s S S1 a c a' c' ks ak ck (fun i => if i = k then b else m i) w (wr.setCell ⟨w.heap.size + 1 + 1, k, none⟩ (.bool b)) := by
  have hf : Fr (fun b => b = w.heap.size + 1 + 1) wr (wr.setCell ⟨w.heap.size + 1 + 1, k, none⟩ (.bool b)) := Fr.set' (D := fun b => b = w.heap.size + 1 + 1) (Fr.of_below (Below.refl _ _)) ⟨w.heap.size + 1 + 1, k, none⟩ rfl _
  exact ⟨h.ksh.fr hf (fun b hb => by omega) hS, h.box.fr hf (by omega), h.ints.fr hf (fun b hb hd => by have := hS1 b hb; omega), h.tru.setB k b, by simpa [World.setCell] using h.size⟩
end
theorem onW_any (s : Sh) (m : Nat → Bool) (ks : List Int) (k : Nat) : (mayI (s.tk k) 10).any (onW m ks) = anyC (chT s) (fun j => decide (j ∈ ks)) m k := rfl

def LdPost (s : Sh) (ks : List Int) (w : World) (e : Ending) (w' : World) : Prop := ∃ v, e = .returned v ∧ NumRow w' w.heap.size v (leadL s (fun j => decide (j ∈ ks)) 10) ∧ Below w.heap.size w w'

set_option maxRecDepth 100000 in
set_option maxHeartbeats 4000000 in
theorem leadingTo_any (s : Sh) (ks : List Int) (w : World) (S0 S10 : Nat → Prop) (a : Option Addr) (c : Nat) (a' : Option Addr) (c' : Nat) (ak : Option Addr) (ck : Nat) (h0 : ShAt w S0 s a c a' c') (hok : s.ok = true) (hks0 : IntsAt w S10 ks ak ck) :
    Calls Try.prog 52 #[.agg #[.slice a s.m.length c, .slice a' s.t.length c'], .slice ak ks.length ck] w (LdPost s ks w) := by
  obtain ⟨S, hSd⟩ : ∃ S : Nat → Prop, S = fun b => S0 b ∧ b < w.heap.size := ⟨_, rfl⟩
  have hSl : ∀ b, S b → b < w.heap.size := by rw [hSd]; exact fun b h => h.2
  have h : ShAt w S s a c a' c' := by rw [hSd]; exact h0.lim
  have HSL := Lib.hid hSl
  obtain ⟨S1, hSd1⟩ : ∃ S : Nat → Prop, S = fun b => S10 b ∧ b < w.heap.size := ⟨_, rfl⟩
  have hSl1 : ∀ b, S1 b → b < w.heap.size := by rw [hSd1]; exact fun b h => h.2
  have hks : IntsAt w S1 ks ak ck := by rw [hSd1]; exact hks0.lim
  have HSL1 := Lib.hid hSl1
  have HO := Lib.hid hok
  have hm10 : s.m.length ≤ 10 := (Sh.ok_iff.1 hok).1
  have htl := (Sh.ok_iff.1 hok).2.1
  obtain ⟨n, hnn⟩ : ∃ n, n = s.m.length := ⟨_, rfl⟩
  have hn10 : n ≤ 10 := by omega
  have htn : s.t.length = n := by omega
  have HN := Lib.hid hnn
  have HTN := Lib.hid htn
  obtain ⟨W, hW⟩ : ∃ W, W = ((w.alloc (.cells #[.slice a s.m.length c, .slice a' s.t.length c'] 51)).alloc (.cells #[.slice ak ks.length ck] 23)).alloc (.cells #[.bool false, .bool false, .bool false, .bool false, .bool false, .bool false, .bool false, .bool false, .bool false, .bool false] 110) := ⟨_, rfl⟩
  have HWW := Lib.hid hW
  have HI0 := Lib.hid (show LdI s S S1 a c a' c' ks ak ck (fun _ => false) w W by
    have e1 : (w.alloc (.cells #[.slice a s.m.length c, .slice a' s.t.length c'] 51)).heap.size = w.heap.size + 1 := by simp
    have e2 : ((w.alloc (.cells #[.slice a s.m.length c, .slice a' s.t.length c'] 51)).alloc (.cells #[.slice ak ks.length ck] 23)).heap.size = w.heap.size + 1 + 1 := by simp
    have hbx := Blk.new (w.alloc (.cells #[.slice a s.m.length c, .slice a' s.t.length c'] 51)) 23 #[.slice ak ks.length ck]
    rw [e1] at hbx
    have hbt := heap_alloc_new ((w.alloc (.cells #[.slice a s.m.length c, .slice a' s.t.length c'] 51)).alloc (.cells #[.slice ak ks.length ck] 23)) (.cells #[.bool false, .bool false, .bool false, .bool false, .bool false, .bool false, .bool false, .bool false, .bool false, .bool false] 110)
    rw [e2] at hbt
    rw [hW]
    refine ⟨((Ks.start h).alloc _).alloc _, hbx.alloc _, ((hks.alloc _).alloc _).alloc _, ⟨_, hbt, rfl, fun i hi => by
        rcases (show i = 0 ∨ i = 1 ∨ i = 2 ∨ i = 3 ∨ i = 4 ∨ i = 5 ∨ i = 6 ∨ i = 7 ∨ i = 8 ∨ i = 9 by omega) with rfl | rfl | rfl | rfl | rfl | rfl | rfl | rfl | rfl | rfl <;> rfl⟩, by simp⟩)
  have HP := Lib.hid (show LdPost s ks w = fun e w' => ∃ v, e = .returned v ∧ NumRow w' w.heap.size v (leadL s (fun j => decide (j ∈ ks)) 10) ∧ Below w.heap.size w w' from rfl)
  obtain ⟨P, hP⟩ : ∃ P, P = LdPost s ks w := ⟨_, rfl⟩
  have HPP := Lib.hid hP
  rw [← hP]
  have hmf : ∀ (fn : Fn) (first cap : Array Value) (w : World), (Instr.makeFunc fn first cap).run Try.prog w = .ok (.func fn first cap) w := fun _ _ _ _ => rfl
  obtain ⟨iN, ni, nz0, nz1, nz2⟩ := info_parts infoInt
  have HIN := Lib.hid (And.intro ni (And.intro nz0 (And.intro nz1 nz2)))
  have hml : maxLen = 9223372036854775807 := rfl
  have HML := Lib.hid hml
  obtain ⟨x0, x1⟩ := HI0.out.ksh.box
  rw [hW] at x0 x1
  clear h h0 hSd hSl hSd1 hSl1 hks hks0 hok hm10 htl hnn htn hW hP ni nz0 nz1 nz2 hml
  rw [← HN.out, HTN.out] at x0 x1
  rw [← HN.out, HTN.out] at HWW ⊢
  go_enter Try.func52, Try.ntmps52
  go_wp2_with fail
  rw [← HWW.out]
  clear x0 x1
  go_loopw [16] (fun i wr => ∃ r : Nat, r ≤ n ∧ i = .int .i64 r ∧ LdI s S S1 a c a' c' ks ak ck (rndC (chT s) (fun j => decide (j ∈ ks)) n r) w wr) (fun i _ => n - (intOf i).toNat)
  case atStart => exact ⟨0, by omega, rfl, HI0.out⟩
  case round =>
    obtain ⟨r, hr, rfl, hI⟩ := hrel
    have HI := Lib.hid hI
    have HRN := Lib.hid hr
    clear hI
    by_cases hlt : r < n
    · obtain ⟨x0, x1⟩ := HI.out.ksh.box
      rw [← HN.out] at x0
      rw [HTN.out] at x1
      go_wp2_with fail
      clear x0 x1
      go_loopw [21] (fun i wi => ∃ q : Nat, q ≤ n ∧ i = .int .i64 q ∧ LdI s S S1 a c a' c' ks ak ck (stepsC (chT s) (fun j => decide (j ∈ ks)) (rndC (chT s) (fun j => decide (j ∈ ks)) n r) q) w wi) (fun i _ => n - (intOf i).toNat)
      case atStart => exact ⟨0, by omega, rfl, HI.out⟩
      case round =>
        obtain ⟨q, hq, rfl, hI⟩ := hrel
        have HJ := Lib.hid hI
        clear hI
        by_cases hqn : q < n
        · obtain ⟨m, hm⟩ : ∃ m, m = stepsC (chT s) (fun j => decide (j ∈ ks)) (rndC (chT s) (fun j => decide (j ∈ ks)) n r) q := ⟨_, rfl⟩
          have HMN := Lib.hid (show stepsC (chT s) (fun j => decide (j ∈ ks)) (rndC (chT s) (fun j => decide (j ∈ ks)) n r) (q + 1) = fun i => if i = q then m q || anyC (chT s) (fun j => decide (j ∈ ks)) m q else m i by rw [hm]; rfl)
          rw [← hm] at HJ
          clear hm
          have hkt : q < s.t.length := by have := HTN.out; omega
          have hq10 : q < 10 := by omega
          obtain ⟨b', o', a2, c2, ha', hbl, _, e0, e1, e2, hat, _, _⟩ := HJ.out.ksh.2.2.elem (Below.refl _ _) hkt
          have htk : s.t[q] = s.tk q := (getD_len hkt).symm
          rw [htk] at e0 e1 e2 hat
          have HA := Lib.hid ha'
          obtain ⟨hcd, hfd⟩ := HJ.out.tru.cell hq10
          obtain ⟨dv, hdv⟩ : ∃ b, b = m q := ⟨_, rfl⟩
          rw [← hdv] at hcd HMN
          have hglt := HJ.out.tru.lt
          have hsz := HJ.out.size
          clear htk ha' hdv
          obtain rfl := HA.out
          cases dv
          · have HAT := Lib.hid (hat.alloc (.cells #[.int .i64 (s.tk q).k, .int .i64 (s.tk q).n, .slice a2 (s.tk q).ps.length c2] 104))
            have HJA := Lib.hid (HJ.out.alloc (.cells #[.int .i64 (s.tk q).k, .int .i64 (s.tk q).n, .slice a2 (s.tk q).ps.length c2] 104))
            have HMO := Lib.hid (show mayO (s.tk q) = mayI (s.tk q) 10 by unfold mayO; rw [if_pos (s.tk_ok HO.out q)])
            clear hat hfd
            go_wp2_with fail
            refine (implMay_any (s.tk q) _ _ a2 c2 HAT.out).mono ?_
            rintro e w1 ⟨hb, v, rfl, hrow⟩
            rw [HMO.out] at hrow
            have HJ1 := Lib.hid (HJA.out.below hb)
            have hlb : ∀ x ∈ mayI (s.tk q) 10, 0 ≤ x ∧ x < 10 := fun x hx => by have := mayI_mem.1 hx; omega
            have HLB := Lib.hid hlb
            have HAC := Lib.hid (onW_any s m ks q)
            obtain ⟨L, hL⟩ : ∃ L, L = mayI (s.tk q) 10 := ⟨_, rfl⟩
            rw [← hL] at hrow hlb HLB HAC
            obtain ⟨a4, c4, rfl, hia⟩ := hrow.at (fun x hx => by have := hlb x hx; unfold i64ok; omega)
            have HIA := Lib.hid hia
            clear hb hrow hlb hia hL e0 e1 e2 hcd HMO HAT HJA
            have hs1 := HJ1.out.size
            obtain ⟨u, hu⟩ : ∃ u, u = anyC (chT s) (fun j => decide (j ∈ ks)) m q := ⟨_, rfl⟩
            have HCW := Lib.hid (containsWay_any w1 _ S1 L a4 c4 (w.heap.size + 1 + 1) (w.heap.size + 1) m ks ak ck HIA.out HLB.out HJ1.out.tru HJ1.out.box HJ1.out.ints)
            rw [HAC.out, ← hu] at HCW
            rw [← hu] at HMN
            clear hu HIA HLB HAC
            go_wp2_with fail
            refine HCW.out.mono ?_
            rintro e w2 ⟨rfl, rfl⟩
            obtain ⟨hcd, hfd⟩ := HJ1.out.tru.cell hq10
            clear HCW
            go_wp2_with fail
            go_roundw
            case rel => exact ⟨q + 1, by omega, by go_num, by rw [HMN.out]; exact HJ1.out.set HSL.out HSL1.out q u⟩
            case measure => simp [intOf]; omega
          · have HJA := Lib.hid (HJ.out.alloc (.cells #[.int .i64 (s.tk q).k, .int .i64 (s.tk q).n, .slice a2 (s.tk q).ps.length c2] 104))
            clear hat
            go_wp2_with fail
            go_roundw
            case rel => exact ⟨q + 1, by omega, by go_num, by rw [HMN.out]; exact (HJ.out.set HSL.out HSL1.out q true).alloc _⟩
            case measure => simp [intOf]; omega
        · obtain rfl : q = n := by omega
          go_wp2_with fail
          go_roundw
          case rel => exact ⟨r + 1, by omega, by go_num, HJ.out⟩
          case measure => simp [intOf]; omega
    · obtain rfl : r = n := by omega
      have HLD := Lib.hid (show rndC (chT s) (fun j => decide (j ∈ ks)) r r = leadB s (fun j => decide (j ∈ ks)) by unfold leadB; rw [← HN.out])
      rw [HLD.out] at HI
      obtain ⟨cs, hbk, hcs, hcc⟩ := HI.out.tru
      have HBK := Lib.hid hbk
      have HCC := Lib.hid hcc
      have hisz : (Try.prog.info? 110).map (·.size) = some cs.size := by rw [hcs]; kernel_rfl
      have HIS := Lib.hid hisz
      have HB2 := Lib.hid HI.out.ksh.done
      have hsz := HI.out.size
      clear hbk hcs hcc hisz HI
      obtain ⟨W2, rfl⟩ : ∃ W, W = wr := ⟨_, rfl⟩
      go_wp2_with (refine wpList_load_row rfl 110 (.tmp 5) rfl (w.heap.size + 1 + 1) rfl 110 cs (0, 0) _ HBK.out Try.underlying110 rfl HIS.out ?_)
      go_loopw [9, 40] (fun v i wi => ∃ k : Nat, k ≤ 10 ∧ i = .int .i64 k ∧ NumRow wi w.heap.size v (leadL s (fun j => decide (j ∈ ks)) k) ∧ Below W2.heap.size W2 wi ∧ (∀ b, v.ownBlock = some b → W2.heap.size ≤ b)) (fun _ i _ => 10 - (intOf i).toNat)
      case atStart => exact ⟨0, by omega, rfl, World.ownsRow_nil _ _ _ _, Below.refl _ _, by simp [Value.ownBlock]⟩
      case round =>
        obtain ⟨k, hk, rfl, hn, hb, hne⟩ := hrel
        have HNW := Lib.hid hn
        have HB := Lib.hid hb
        have HNE := Lib.hid hne
        have hwr := hb.size
        clear hn hb hne
        by_cases hk10 : k < 10
        · have hidx := run_idx cs k hk10 (leadB s (fun j => decide (j ∈ ks)) k) (HCC.out k hk10)
          have HFL := Lib.hid (show leadL s (fun j => decide (j ∈ ks)) (k + 1) = leadL s (fun j => decide (j ∈ ks)) k ++ (if leadB s (fun j => decide (j ∈ ks)) k = true then [(k : Int)] else []) from fl_succ _ k)
          obtain ⟨acc, hacc⟩ : ∃ acc, acc = leadL s (fun j => decide (j ∈ ks)) k := ⟨_, rfl⟩
          have hal : acc.length ≤ k := by rw [hacc]; exact fl_len _ k
          obtain ⟨lb, hlb⟩ : ∃ lb, lb = leadB s (fun j => decide (j ∈ ks)) k := ⟨_, rfl⟩
          rw [← hlb] at hidx HFL
          rw [← hacc] at HNW HFL
          clear hacc hlb
          cases lb
          · go_wp2_with fail
            go_roundw
            case rel => exact ⟨k + 1, by omega, by go_num, by rw [HFL.out, if_neg (by decide), List.append_nil]; exact HNW.out, HB.out, HNE.out⟩
            case measure => simp [intOf]; omega
          · go_wp2_with (at_builtin; refine wpList_append_row _ rfl (.tmp 45) (.tmp 47) 23 rfl w.heap.size 3 iN (.int .i64 0) 1 8 Try.underlying23 HIN.out.1 HIN.out.2.1 HIN.out.2.2.1 HIN.out.2.2.2 rfl (by decide) _ acc.length (acc.map (Value.int .i64)) rfl (World.ownsRow.alloc HNW.out _) ⟨wr.heap.size, 0, none⟩ 1 1 [.int .i64 k] rfl rfl ?d1 ?d2 (by decide) ?d3 ?d4 ?d5 ?_)
            case d2 => simp [Value.oneCell']
            case d3 => rw [HML.out]; omega
            case d4 => omega
            case d5 => first | omega | (simp; omega)
            intro v2 w3 hown hgr hnew
            have hN2 : NumRow w3 w.heap.size v2 (acc ++ [(k : Int)]) := by
              unfold NumRow
              rw [List.map_append, show (acc ++ [(k : Int)]).length = acc.length + 1 by simp]
              exact hown
            have hB2 : Below W2.heap.size W2 w3 := (HB.out.alloc hwr _).trans (below_grown hgr (by simp; omega) HNE.out)
            have hG2 : ∀ b, v2.ownBlock = some b → W2.heap.size ≤ b := fun b hb => by
              rcases hnew b hb with h | h
              · exact HNE.out b h
              · omega
            have H2 := Lib.hid (And.intro hN2 (And.intro hB2 hG2))
            clear hown hgr hnew hN2 hB2 hG2 hidx
            go_wp2_with fail
            go_roundw
            case rel => exact ⟨k + 1, by omega, by go_num, by rw [HFL.out]; simp only [if_true]; exact H2.out.1, H2.out.2.1, H2.out.2.2⟩
            case measure => simp [intOf]; omega
        · obtain rfl : k = 10 := by omega
          go_wp2_with fail
          rw [HPP.out]
          exact ⟨_, rfl, HNW.out, HB2.out.trans (HB.out.mono HB2.out.size)⟩
end Go.Proofs.Ythjfmpeicjmlkaa
