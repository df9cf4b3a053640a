/- spec.l2Tape.get, spec.l2Do: a task that fetches off a tape -/
import Derived.Test.YtklmpagpkeffjaaVals
import Derived.Test.YtklmpagpkeffjaaTree
namespace Go.Proofs.Ytklmpagpkeffjaa
open Go.RowKit

/-- The tape in block g: what it has been given, how many it has taken, the key that it lacks. -/
def TpAt (w : World) (g : Nat) (L : List Int) (i : Nat) (lk : Int) : Prop :=
  ∃ a c, Blk w g 149 #[.slice a L.length c, .int .i64 i, .int .i64 lk] ∧ IntsAt w (fun b => b ≠ g) L a c

theorem IntsAt.only {w w' : World} {S : Nat → Prop} {l : List Int} {a : Option Addr} {c g : Nat} (h : IntsAt w S l a c) (ho : Only g w w') (hg : ∀ b, S b → b ≠ g) : IntsAt w' S l a c :=
  h.keep (fun _ h => h) (fun b hb hl => ho.block b hl (by intro e; injection e with e; exact hg b hb e))
theorem AtS.only {w w' : World} {S : Nat → Prop} {ps : List T} {a : Option Addr} {c g : Nat} (h : AtS w S ps a c) (ho : Only g w w') (hg : ∀ b, S b → b ≠ g) : AtS w' S ps a c :=
  h.keep (fun _ h => h) (fun b hb hl => ho.block b hl (by intro e; injection e with e; exact hg b hb e))

section
variable {w w' : World} {g i : Nat} {L : List Int} {lk : Int}
theorem TpAt.lt (h : TpAt w g L i lk) : g < w.heap.size := by obtain ⟨_, _, h, _⟩ := h; exact h.lt
theorem TpAt.alloc (h : TpAt w g L i lk) (o : Obj) : TpAt (w.alloc o) g L i lk := by obtain ⟨a, c, h1, h2⟩ := h; exact ⟨a, c, h1.alloc o, h2.alloc o⟩
theorem TpAt.drewN (h : TpAt w g L i lk) (n : Nat) : TpAt (w.drewN n) g L i lk := by obtain ⟨a, c, h1, h2⟩ := h; exact ⟨a, c, h1.drewN n, h2.drewN n⟩
theorem TpAt.set_at (h : TpAt w g L i lk) (j : Nat) : TpAt (w.setCell ⟨g, 1, none⟩ (.int .i64 j)) g L j lk := by
  obtain ⟨a, c, h1, h2⟩ := h
  refine ⟨a, c, ?_, h2.setCell (fun b hb => hb) _⟩
  have := h1.set_ 1 (.int .i64 j)
  simpa using this
theorem TpAt.set_lk (h : TpAt w g L i lk) (k : Int) : TpAt (w.setCell ⟨g, 2, none⟩ (.int .i64 k)) g L i k := by
  obtain ⟨a, c, h1, h2⟩ := h
  refine ⟨a, c, ?_, h2.setCell (fun b hb => hb) _⟩
  have := h1.set_ 2 (.int .i64 k)
  simpa using this
end

/-- get, where there is one more. -/
theorem get_some (w : World) (g i : Nat) (L : List Int) (lk key : Int) (h : TpAt w g L i lk) (hi : i < L.length) :
    Calls Try.prog 139 #[.pointer (some ⟨g, 0, none⟩), .int .i64 key] w fun e w' => e = .returned (.tuple #[.int .i64 L[i], .bool true]) ∧ TpAt w' g L (i + 1) lk ∧ Only g w w' := by
  have H := Lib.hid h
  obtain ⟨a, c, hb, hl⟩ := h
  have hlc := hl.1
  have hcm := hl.2.1
  obtain ⟨b, o, rfl, hbl, hbg, hc⟩ := hl.get (Below.refl _ _) hi
  obtain ⟨v, hv⟩ : ∃ v, v = L[i] := ⟨_, rfl⟩
  rw [← hv] at hc ⊢
  clear hv
  obtain ⟨x0, x1, x2, f0, f1, f2⟩ := hb.three
  clear hb hl
  have hbg' : g ≠ b := fun h => hbg h.symm
  have hne : ((i : Int) == (L.length : Int)) = false := by simp; omega
  have W1 : IntKind.i64.wrap ((i : Int) + 1 - 1) = i := by rw [show (i : Int) + 1 - 1 = i by omega]; exact IntWalk.i64_in _ ⟨by omega, by omega⟩
  go_enter Try.func139, Try.ntmps139
  go_wp2_with fail
  go_quiet (fail)
  revert nq
  intro n1
  clear hne
  go_wp2_with fail
  go_quiet (fail)
  revert nq
  intro n2
  go_wp2_with fail
  go_ret2
  rw [show ((i : Int) + 1) = ((i + 1 : Nat) : Int) by omega]
  exact ⟨rfl, ((H.out.drewN n1).set_at (i + 1)).drewN n2, (((Only.refl g w).drewN n1).set (.inl rfl) _).drewN n2⟩

/-- get, where there is none. -/
theorem get_none (w : World) (g : Nat) (L : List Int) (lk key : Int) (h : TpAt w g L L.length lk) :
    Calls Try.prog 139 #[.pointer (some ⟨g, 0, none⟩), .int .i64 key] w fun e w' => e = .returned (.tuple #[.int .i64 0, .bool false]) ∧ TpAt w' g L L.length key ∧ Only g w w' := by
  have H := Lib.hid h
  obtain ⟨a, c, hb, hl⟩ := h
  obtain ⟨x0, x1, x2, f0, f1, f2⟩ := hb.three
  obtain ⟨m, hm⟩ : ∃ m, m = L.length := ⟨_, rfl⟩
  rw [← hm] at x0 x1 ⊢
  have HM := Lib.hid hm
  clear hb hl hm
  have hne : ((m : Int) == (m : Int)) = true := by simp
  go_enter Try.func139, Try.ntmps139
  go_wp2_with fail
  go_quiet (fail)
  revert nq
  intro n1
  go_wp2_with fail
  go_ret2
  rw [HM.out]
  exact ⟨rfl, (H.out.drewN _).set_lk key, ((Only.refl g w).drewN _).set (.inl rfl) _⟩

/-- What l2Do leaves: the value, and so many more are taken; or there are too few, and the key that comes then. -/
def DoPost (vs : Int → Int) (K : List Int) (m i g : Nat) (w : World) (v : Int) (n : Nat) (e : Ending) (w' : World) : Prop :=
  Only g w w' ∧ ((i + n ≤ m ∧ e = .returned (.tuple #[.int .i64 v, .bool true]) ∧ ∃ lk, TpAt w' g ((K.take m).map vs) (i + n) lk) ∨
    (m < i + n ∧ (∃ u, e = .returned (.tuple #[.int .i64 u, .bool false])) ∧ ∃ key, K[m]? = some key ∧ TpAt w' g ((K.take m).map vs) m key))

def DoT (vs : Int → Int) (K : List Int) (m : Nat) (t : T) : Prop := ∀ (w : World) (S : Nat → Prop) (a : Option Addr) (c g i : Nat) (lk : Int),
  AtS w S t.ps a c → (∀ b, S b → b ≠ g) → TpAt w g ((K.take m).map vs) i lk → i ≤ m → t.kys vs <+: K.drop i →
  Calls Try.prog 128 #[.agg #[.int .i64 t.k, .int .i64 t.n, .slice a t.ps.length c], .pointer (some ⟨g, 0, none⟩)] w (DoPost vs K m i g w (t.val vs) (t.kys vs).length)

theorem pre_left {p q l : List Int} (h : p ++ q <+: l) : p <+: l := (List.prefix_append p q).trans h
theorem pre_right {p q K : List Int} {i : Nat} (h : p ++ q <+: K.drop i) : q <+: K.drop (i + p.length) := by
  obtain ⟨r, hr⟩ := h
  refine ⟨r, ?_⟩
  rw [← List.drop_drop, ← hr]
  simp
theorem pre_one {n : Int} {K : List Int} {i : Nat} (h : [n] <+: K.drop i) : K[i]? = some n := by
  obtain ⟨r, hr⟩ := h
  have : (K.drop i)[0]? = some n := by rw [← hr]; rfl
  simpa using this
theorem pre_len {p K : List Int} {i : Nat} (h : p <+: K.drop i) (hp : p ≠ [] ∨ i ≤ K.length) : i + p.length ≤ K.length := by
  have := h.length_le
  rw [List.length_drop] at this
  rcases hp with hp | hp
  · have := List.length_pos_iff.2 hp; omega
  · omega
theorem got_len {vs : Int → Int} {K : List Int} {m : Nat} (hm : m ≤ K.length) : ((K.take m).map vs).length = m := by simp; omega
theorem got_at {vs : Int → Int} {K : List Int} {m i : Nat} {n : Int} (hi : i < m) (hm : m ≤ K.length) (h : K[i]? = some n) : ((K.take m).map vs)[i]'(by rw [got_len hm]; exact hi) = vs n := by
  have hlt : i < K.length := by omega
  rw [List.getElem?_eq_getElem hlt] at h
  simp only [Option.some.injEq] at h
  simp [h]

/-- get, of the key that comes next. -/
theorem get_next (vs : Int → Int) (K : List Int) (m i g : Nat) (w : World) (lk key : Int) (h : TpAt w g ((K.take m).map vs) i lk) (hm : m ≤ K.length) (hi : i ≤ m) (hk : K[i]? = some key) :
    Calls Try.prog 139 #[.pointer (some ⟨g, 0, none⟩), .int .i64 key] w (DoPost vs K m i g w (vs key) 1) := by
  by_cases hlt : i < m
  · refine (get_some w g i _ lk key h (by rw [got_len hm]; exact hlt)).mono ?_
    rintro e w' ⟨rfl, h1, h2⟩
    rw [got_at hlt hm hk]
    exact ⟨h2, .inl ⟨hlt, rfl, lk, h1⟩⟩
  · obtain rfl : i = m := by omega
    have hl := got_len (vs := vs) hm
    refine (get_none w g ((K.take i).map vs) lk key (by rw [hl]; exact h)).mono ?_
    rintro e w' ⟨rfl, h1, h2⟩
    rw [hl] at h1
    exact ⟨h2, .inr ⟨by omega, ⟨0, rfl⟩, key, hk, h1⟩⟩

theorem DoPost.box {vs : Int → Int} {K : List Int} {m i g : Nat} {w w1 : World} {v : Int} {n : Nat} {e : Ending} {w' : World} (ho : Only g w w1) (h : DoPost vs K m i g w1 v n e w') : DoPost vs K m i g w v n e w' := ⟨ho.trans h.1, h.2⟩

set_option maxRecDepth 100000 in
theorem do_0 (vs : Int → Int) (K : List Int) (m : Nat) (n : Int) : DoT vs K m (.mk 0 n []) := by
  intro w S a c g i lk hat hS ht hi hp
  simp only [T.k, T.n, T.ps, List.length_nil] at *
  have HT := Lib.hid (ht.alloc (.cells #[.int .i64 0, .int .i64 n, .slice a 0 c] 42))
  clear hat ht hp
  go_enter Try.func128, Try.ntmps128
  go_wp2_with fail
  go_ret2
  rw [val_0, kys_0]
  exact ⟨(Only.refl g w).alloc _, .inl ⟨hi, rfl, lk, HT.out⟩⟩

set_option maxRecDepth 100000 in
theorem do_1 (vs : Int → Int) (K : List Int) (m : Nat) (hm : m ≤ K.length) (n : Int) : DoT vs K m (.mk 1 n []) := by
  intro w S a c g i lk hat hS ht hi hp
  simp only [T.k, T.n, T.ps, List.length_nil, val_1, kys_1] at *
  have HT := Lib.hid (ht.alloc (.cells #[.int .i64 1, .int .i64 n, .slice a 0 c] 42))
  have hk := pre_one hp
  have HK := Lib.hid hk
  clear hat ht hp hk
  go_enter Try.func128, Try.ntmps128
  go_wp2_with fail
  refine (get_next vs K m i g _ lk n HT.out hm hi HK.out).mono ?_
  rintro e w1 ⟨ho, ⟨h1, rfl, lk1, h2⟩ | ⟨h1, ⟨u, rfl⟩, key, h2, h3⟩⟩
  · have H1 := Lib.hid (And.intro ho h2)
    clear ho h2
    go_wp2_with fail
    go_ret2
    exact ⟨((Only.refl g w).alloc _).trans H1.out.1, .inl ⟨h1, rfl, lk1, H1.out.2⟩⟩
  · have H1 := Lib.hid (And.intro ho (And.intro h2 h3))
    clear ho h2 h3
    go_wp2_with fail
    go_ret2
    exact ⟨((Only.refl g w).alloc _).trans H1.out.1, .inr ⟨h1, ⟨u, rfl⟩, key, H1.out.2⟩⟩

set_option maxRecDepth 100000 in
set_option maxHeartbeats 1000000 in
theorem do_2 (vs : Int → Int) (hvs : ∀ k, 0 ≤ vs k ∧ vs k ≤ 96) (K : List Int) (m : Nat) (x y : T) (fx : x.fit = true) (fy : y.fit = true) (hx : DoT vs K m x) (hy : DoT vs K m y) : DoT vs K m (.mk 2 0 [x, y]) := by
  intro w S a c g i lk hat hS ht hi hp
  simp only [T.k, T.n, T.ps, List.length_cons, List.length_nil, kys_2] at *
  have HT := Lib.hid (ht.alloc (.cells #[.int .i64 2, .int .i64 0, .slice a 2 c] 42))
  have hgl := ht.lt
  have HA := Lib.hid (hat.alloc (.cells #[.int .i64 2, .int .i64 0, .slice a 2 c] 42))
  have HB := Lib.hid (Blk.new w 42 #[.int .i64 2, .int .i64 0, .slice a 2 c])
  have HO := Lib.hid ((Only.refl g w).alloc (.cells #[.int .i64 2, .int .i64 0, .slice a 2 c] 42))
  have HX := Lib.hid hx
  have HS := Lib.hid hS
  have HPR := Lib.hid hp
  obtain ⟨b, o, a0, c0, rfl, hbl, hSb, e0, e1, e2, hps, _, _⟩ := hat.elem (w' := w.alloc (.cells #[.int .i64 2, .int .i64 0, .slice a 2 c] 42)) ((Below.refl _ _).alloc (Nat.le_refl _) _) (i := 0) (by simp)
  simp only [Nat.zero_mul, Nat.add_zero, List.getElem_cons_zero] at e0 e1 e2 hps
  have HP := Lib.hid hps
  clear hat hS hx hps ht hp
  go_enter Try.func128, Try.ntmps128
  go_wp2_with fail
  refine (HX.out _ S a0 c0 g i lk HP.out HS.out HT.out hi (pre_left HPR.out)).mono ?_
  rintro e w1 ⟨ho, ⟨h1, rfl, lk1, h2⟩ | ⟨h1, ⟨u, rfl⟩, key, h2, h3⟩⟩
  rotate_left
  · have H1 := Lib.hid (And.intro (HO.out.trans ho) (And.intro h2 h3))
    clear ho h2 h3
    go_wp2_with fail
    go_ret2
    exact ⟨H1.out.1, .inr ⟨by simp only [List.length_append]; omega, ⟨_, rfl⟩, key, H1.out.2⟩⟩
  obtain ⟨v1, hv1⟩ : ∃ v1, v1 = x.val vs := ⟨_, rfl⟩
  have hvb1 := T.val_bd vs hvs x fx
  rw [← hv1] at hvb1 ⊢
  have HV1 := Lib.hid hv1
  have hB1 := HB.out.only ho (by omega)
  have HA1 := Lib.hid (HA.out.only ho HS.out)
  have hsz := ho.size
  simp only [World.size_alloc] at hsz
  have H1 := Lib.hid (And.intro (HO.out.trans ho) h2)
  obtain ⟨x0, x1, x2, f0, f1, f2⟩ := hB1.three
  have HB1 := Lib.hid hB1
  clear ho h2 hv1 hB1 HX HA HB HT HP HO
  have HY := Lib.hid hy
  clear hy
  obtain ⟨b', o', a1, c1, he, hbl1, _, e0, e1, e2, hps, _, _⟩ := HA1.out.elem (w' := w1) (Below.refl _ _) (i := 1) (by simp)
  injection he with he
  injection he with he1 he2
  subst he1 he2
  simp only [Nat.one_mul, List.getElem_cons_succ, List.getElem_cons_zero] at e0 e1 e2 hps
  have HP1 := Lib.hid hps
  clear hps
  go_wp2_with fail
  refine (HY.out _ S a1 c1 g _ lk1 HP1.out HS.out H1.out.2 h1 (pre_right HPR.out)).mono ?_
  rintro e w2 ⟨ho, ⟨h3, rfl, lk2, h4⟩ | ⟨h3, ⟨u, rfl⟩, key, h4, h5⟩⟩
  · obtain ⟨v2, hv2⟩ : ∃ v2, v2 = y.val vs := ⟨_, rfl⟩
    have hvb2 := T.val_bd vs hvs y fy
    rw [← hv2] at hvb2 ⊢
    have HV2 := Lib.hid hv2
    have H2 := Lib.hid (And.intro (H1.out.1.trans ho) h4)
    have hB2 := HB1.out.only ho (by omega)
    clear x0 x1 x2 f0 f1 f2 e0 e1 e2
    obtain ⟨x0, x1, x2, f0, f1, f2⟩ := hB2.three
    clear ho h4 hv2 hB2
    go_wp2_with fail
    go_ret2
    rw [val_2, ← HV1.out, ← HV2.out]
    exact ⟨H2.out.1, .inl ⟨by simp only [List.length_append]; omega, rfl, lk2, by rw [List.length_append, ← Nat.add_assoc]; exact H2.out.2⟩⟩
  · have H2 := Lib.hid (And.intro (H1.out.1.trans ho) (And.intro h4 h5))
    clear ho h4 h5 x0 x1 x2 f0 f1 f2 e0 e1 e2
    go_wp2_with fail
    go_ret2
    exact ⟨H2.out.1, .inr ⟨by simp only [List.length_append]; omega, ⟨_, rfl⟩, key, H2.out.2⟩⟩

set_option maxRecDepth 100000 in
set_option maxHeartbeats 1000000 in
theorem do_3 (vs : Int → Int) (hvs : ∀ k, 0 ≤ vs k ∧ vs k ≤ 96) (K : List Int) (m : Nat) (x y : T) (fx : x.fit = true) (fy : y.fit = true) (hx : DoT vs K m x) (hy : DoT vs K m y) : DoT vs K m (.mk 3 0 [x, y]) := by
  intro w S a c g i lk hat hS ht hi hp
  simp only [T.k, T.n, T.ps, List.length_cons, List.length_nil, kys_3] at *
  have HT := Lib.hid (ht.alloc (.cells #[.int .i64 3, .int .i64 0, .slice a 2 c] 42))
  have hgl := ht.lt
  have HA := Lib.hid (hat.alloc (.cells #[.int .i64 3, .int .i64 0, .slice a 2 c] 42))
  have HB := Lib.hid (Blk.new w 42 #[.int .i64 3, .int .i64 0, .slice a 2 c])
  have HO := Lib.hid ((Only.refl g w).alloc (.cells #[.int .i64 3, .int .i64 0, .slice a 2 c] 42))
  have HX := Lib.hid hx
  have HS := Lib.hid hS
  have HPR := Lib.hid hp
  obtain ⟨b, o, a0, c0, rfl, hbl, hSb, e0, e1, e2, hps, _, _⟩ := hat.elem (w' := w.alloc (.cells #[.int .i64 3, .int .i64 0, .slice a 2 c] 42)) ((Below.refl _ _).alloc (Nat.le_refl _) _) (i := 0) (by simp)
  simp only [Nat.zero_mul, Nat.add_zero, List.getElem_cons_zero] at e0 e1 e2 hps
  have HP := Lib.hid hps
  clear hat hS hx hps ht hp
  go_enter Try.func128, Try.ntmps128
  go_wp2_with fail
  refine (HX.out _ S a0 c0 g i lk HP.out HS.out HT.out hi (pre_left HPR.out)).mono ?_
  rintro e w1 ⟨ho, ⟨h1, rfl, lk1, h2⟩ | ⟨h1, ⟨u, rfl⟩, key, h2, h3⟩⟩
  rotate_left
  · have H1 := Lib.hid (And.intro (HO.out.trans ho) (And.intro h2 h3))
    clear ho h2 h3
    go_wp2_with fail
    go_ret2
    exact ⟨H1.out.1, .inr ⟨by simp only [List.length_append]; omega, ⟨_, rfl⟩, key, H1.out.2⟩⟩
  obtain ⟨v1, hv1⟩ : ∃ v1, v1 = x.val vs := ⟨_, rfl⟩
  have hvb1 := T.val_bd vs hvs x fx
  rw [← hv1] at hvb1 ⊢
  have HV1 := Lib.hid hv1
  have hB1 := HB.out.only ho (by omega)
  have HA1 := Lib.hid (HA.out.only ho HS.out)
  have hsz := ho.size
  simp only [World.size_alloc] at hsz
  have H1 := Lib.hid (And.intro (HO.out.trans ho) h2)
  obtain ⟨x0, x1, x2, f0, f1, f2⟩ := hB1.three
  have HB1 := Lib.hid hB1
  clear ho h2 hv1 hB1 HX HA HB HT HP HO
  have HY := Lib.hid hy
  clear hy
  obtain ⟨b', o', a1, c1, he, hbl1, _, e0, e1, e2, hps, _, _⟩ := HA1.out.elem (w' := w1) (Below.refl _ _) (i := 1) (by simp)
  injection he with he
  injection he with he1 he2
  subst he1 he2
  simp only [Nat.one_mul, List.getElem_cons_succ, List.getElem_cons_zero] at e0 e1 e2 hps
  have HP1 := Lib.hid hps
  clear hps
  go_wp2_with fail
  refine (HY.out _ S a1 c1 g _ lk1 HP1.out HS.out H1.out.2 h1 (pre_right HPR.out)).mono ?_
  rintro e w2 ⟨ho, ⟨h3, rfl, lk2, h4⟩ | ⟨h3, ⟨u, rfl⟩, key, h4, h5⟩⟩
  · obtain ⟨v2, hv2⟩ : ∃ v2, v2 = y.val vs := ⟨_, rfl⟩
    have hvb2 := T.val_bd vs hvs y fy
    rw [← hv2] at hvb2 ⊢
    have HV2 := Lib.hid hv2
    have H2 := Lib.hid (And.intro (H1.out.1.trans ho) h4)
    have hB2 := HB1.out.only ho (by omega)
    clear x0 x1 x2 f0 f1 f2 e0 e1 e2
    obtain ⟨x0, x1, x2, f0, f1, f2⟩ := hB2.three
    clear ho h4 hv2 hB2
    have hm0 : 0 ≤ v1 * v2 := Int.mul_nonneg hvb1.1 hvb2.1
    have hm1 : v1 * v2 ≤ 96 * 96 := Int.mul_le_mul hvb1.2 hvb2.2 hvb2.1 (by omega)
    have hm2 : v1 * v2 ≤ 9216 := hm1
    clear hm1
    go_wp2_with fail
    go_ret2
    rw [val_3, ← HV1.out, ← HV2.out]
    exact ⟨H2.out.1, .inl ⟨by simp only [List.length_append]; omega, rfl, lk2, by rw [List.length_append, ← Nat.add_assoc]; exact H2.out.2⟩⟩
  · have H2 := Lib.hid (And.intro (H1.out.1.trans ho) (And.intro h4 h5))
    clear ho h4 h5 x0 x1 x2 f0 f1 f2 e0 e1 e2
    go_wp2_with fail
    go_ret2
    exact ⟨H2.out.1, .inr ⟨by simp only [List.length_append]; omega, ⟨_, rfl⟩, key, H2.out.2⟩⟩

set_option maxRecDepth 100000 in
set_option maxHeartbeats 1000000 in
theorem do_4 (vs : Int → Int) (hvs : ∀ k, 0 ≤ vs k ∧ vs k ≤ 96) (K : List Int) (m : Nat) (x y z : T) (fx : x.fit = true) (hx : DoT vs K m x) (hy : DoT vs K m y) (hz : DoT vs K m z) : DoT vs K m (.mk 4 0 [x, y, z]) := by
  intro w S a c g i lk hat hS ht hi hp
  simp only [T.k, T.n, T.ps, List.length_cons, List.length_nil, kys_4] at *
  obtain ⟨q, hq⟩ : ∃ q, q = (if x.val vs = 0 then z.kys vs else y.kys vs) := ⟨_, rfl⟩
  rw [← hq] at hp ⊢
  have HQ := Lib.hid hq
  clear hq
  have HT := Lib.hid (ht.alloc (.cells #[.int .i64 4, .int .i64 0, .slice a 3 c] 42))
  have hgl := ht.lt
  have HA := Lib.hid (hat.alloc (.cells #[.int .i64 4, .int .i64 0, .slice a 3 c] 42))
  have HB := Lib.hid (Blk.new w 42 #[.int .i64 4, .int .i64 0, .slice a 3 c])
  have HO := Lib.hid ((Only.refl g w).alloc (.cells #[.int .i64 4, .int .i64 0, .slice a 3 c] 42))
  have HX := Lib.hid hx
  have HS := Lib.hid hS
  have HPR := Lib.hid hp
  obtain ⟨b, o, a0, c0, rfl, hbl, hSb, e0, e1, e2, hps, _, _⟩ := hat.elem (w' := w.alloc (.cells #[.int .i64 4, .int .i64 0, .slice a 3 c] 42)) ((Below.refl _ _).alloc (Nat.le_refl _) _) (i := 0) (by simp)
  simp only [Nat.zero_mul, Nat.add_zero, List.getElem_cons_zero] at e0 e1 e2 hps
  have HP := Lib.hid hps
  clear hat hS hx hps ht hp
  go_enter Try.func128, Try.ntmps128
  go_wp2_with fail
  refine (HX.out _ S a0 c0 g i lk HP.out HS.out HT.out hi (pre_left HPR.out)).mono ?_
  rintro e w1 ⟨ho, ⟨h1, rfl, lk1, h2⟩ | ⟨h1, ⟨u, rfl⟩, key, h2, h3⟩⟩
  rotate_left
  · have H1 := Lib.hid (And.intro (HO.out.trans ho) (And.intro h2 h3))
    clear ho h2 h3
    go_wp2_with fail
    go_ret2
    exact ⟨H1.out.1, .inr ⟨by simp only [List.length_append]; omega, ⟨_, rfl⟩, key, H1.out.2⟩⟩
  obtain ⟨v1, hv1⟩ : ∃ v1, v1 = x.val vs := ⟨_, rfl⟩
  have hvb1 := T.val_bd vs hvs x fx
  rw [← hv1] at hvb1 ⊢
  have HV1 := Lib.hid hv1
  have hB1 := HB.out.only ho (by omega)
  have HA1 := Lib.hid (HA.out.only ho HS.out)
  have hsz := ho.size
  simp only [World.size_alloc] at hsz
  have H1 := Lib.hid (And.intro (HO.out.trans ho) h2)
  obtain ⟨x0, x1, x2, f0, f1, f2⟩ := hB1.three
  have HB1 := Lib.hid hB1
  clear ho h2 hv1 hB1 HX HA HB HT HP HO
  have HY := Lib.hid hy
  have HZ := Lib.hid hz
  clear hy hz
  by_cases hv0 : v1 = 0
  · have hnz : (v1 != 0) = false := by simpa using hv0
    have HQ2 := Lib.hid (HQ.out.trans (if_pos (by rw [← HV1.out]; exact hv0)))
    have hpr := HPR.out
    rw [HQ2.out] at hpr
    have HPR := Lib.hid hpr
    clear hpr
    obtain ⟨b', o', a1, c1, he, hbl1, _, e0, e1, e2, hps, _, _⟩ := HA1.out.elem (w' := w1) (Below.refl _ _) (i := 2) (by simp)
    injection he with he
    injection he with he1 he2
    subst he1 he2
    simp only [List.getElem_cons_succ, List.getElem_cons_zero] at e0 e1 e2 hps
    have HP1 := Lib.hid hps
    clear hps
    go_wp2_with fail
    refine (HZ.out _ S a1 c1 g _ lk1 HP1.out HS.out H1.out.2 h1 (pre_right HPR.out)).mono ?_
    rintro e w2 ⟨ho, ⟨h3, rfl, lk2, h4⟩ | ⟨h3, ⟨u, rfl⟩, key, h4, h5⟩⟩
    · have H2 := Lib.hid (And.intro (H1.out.1.trans ho) h4)
      clear ho h4 x0 x1 x2 f0 f1 f2 e0 e1 e2
      go_wp2_with fail
      go_ret2
      rw [val_4, ← HV1.out, if_pos hv0, HQ2.out]
      exact ⟨H2.out.1, .inl ⟨by simp only [List.length_append]; omega, rfl, lk2, by rw [List.length_append, ← Nat.add_assoc]; exact H2.out.2⟩⟩
    · have H2 := Lib.hid (And.intro (H1.out.1.trans ho) (And.intro h4 h5))
      clear ho h4 h5 x0 x1 x2 f0 f1 f2 e0 e1 e2
      go_wp2_with fail
      go_ret2
      rw [HQ2.out]
      exact ⟨H2.out.1, .inr ⟨by simp only [List.length_append]; omega, ⟨_, rfl⟩, key, H2.out.2⟩⟩
  · have hnz : (v1 != 0) = true := by simpa using hv0
    have HQ2 := Lib.hid (HQ.out.trans (if_neg (by rw [← HV1.out]; exact hv0)))
    have hpr := HPR.out
    rw [HQ2.out] at hpr
    have HPR := Lib.hid hpr
    clear hpr
    obtain ⟨b', o', a1, c1, he, hbl1, _, e0, e1, e2, hps, _, _⟩ := HA1.out.elem (w' := w1) (Below.refl _ _) (i := 1) (by simp)
    injection he with he
    injection he with he1 he2
    subst he1 he2
    simp only [Nat.one_mul, List.getElem_cons_succ, List.getElem_cons_zero] at e0 e1 e2 hps
    have HP1 := Lib.hid hps
    clear hps
    go_wp2_with fail
    refine (HY.out _ S a1 c1 g _ lk1 HP1.out HS.out H1.out.2 h1 (pre_right HPR.out)).mono ?_
    rintro e w2 ⟨ho, ⟨h3, rfl, lk2, h4⟩ | ⟨h3, ⟨u, rfl⟩, key, h4, h5⟩⟩
    · have H2 := Lib.hid (And.intro (H1.out.1.trans ho) h4)
      clear ho h4 x0 x1 x2 f0 f1 f2 e0 e1 e2
      go_wp2_with fail
      go_ret2
      rw [val_4, ← HV1.out, if_neg hv0, HQ2.out]
      exact ⟨H2.out.1, .inl ⟨by simp only [List.length_append]; omega, rfl, lk2, by rw [List.length_append, ← Nat.add_assoc]; exact H2.out.2⟩⟩
    · have H2 := Lib.hid (And.intro (H1.out.1.trans ho) (And.intro h4 h5))
      clear ho h4 h5 x0 x1 x2 f0 f1 f2 e0 e1 e2
      go_wp2_with fail
      go_ret2
      rw [HQ2.out]
      exact ⟨H2.out.1, .inr ⟨by simp only [List.length_append]; omega, ⟨_, rfl⟩, key, H2.out.2⟩⟩

set_option maxRecDepth 100000 in
set_option maxHeartbeats 1000000 in
theorem do_5 (vs : Int → Int) (hvs : ∀ k, 0 ≤ vs k ∧ vs k ≤ 96) (K : List Int) (m : Nat) (hm : m ≤ K.length) (n : Int) (h0 : 0 ≤ n) (h9 : n ≤ 9) (x : T) (fx : x.fit = true) (hx : DoT vs K m x) : DoT vs K m (.mk 5 n [x]) := by
  intro w S a c g i lk hat hS ht hi hp
  simp only [T.k, T.n, T.ps, List.length_cons, List.length_nil, kys_5] at *
  have HT := Lib.hid (ht.alloc (.cells #[.int .i64 5, .int .i64 n, .slice a 1 c] 42))
  have hgl := ht.lt
  have HA := Lib.hid (hat.alloc (.cells #[.int .i64 5, .int .i64 n, .slice a 1 c] 42))
  have HB := Lib.hid (Blk.new w 42 #[.int .i64 5, .int .i64 n, .slice a 1 c])
  have HO := Lib.hid ((Only.refl g w).alloc (.cells #[.int .i64 5, .int .i64 n, .slice a 1 c] 42))
  have HX := Lib.hid hx
  have HS := Lib.hid hS
  have HPR := Lib.hid hp
  obtain ⟨b, o, a0, c0, rfl, hbl, hSb, e0, e1, e2, hps, _, _⟩ := hat.elem (w' := w.alloc (.cells #[.int .i64 5, .int .i64 n, .slice a 1 c] 42)) ((Below.refl _ _).alloc (Nat.le_refl _) _) (i := 0) (by simp)
  simp only [Nat.zero_mul, Nat.add_zero, List.getElem_cons_zero] at e0 e1 e2 hps
  have HP := Lib.hid hps
  clear hat hS hx hps ht hp
  go_enter Try.func128, Try.ntmps128
  go_wp2_with fail
  refine (HX.out _ S a0 c0 g i lk HP.out HS.out HT.out hi (pre_left HPR.out)).mono ?_
  rintro e w1 ⟨ho, ⟨h1, rfl, lk1, h2⟩ | ⟨h1, ⟨u, rfl⟩, key, h2, h3⟩⟩
  rotate_left
  · have H1 := Lib.hid (And.intro (HO.out.trans ho) (And.intro h2 h3))
    clear ho h2 h3
    go_wp2_with fail
    go_ret2
    exact ⟨H1.out.1, .inr ⟨by simp only [List.length_append]; omega, ⟨_, rfl⟩, key, H1.out.2⟩⟩
  obtain ⟨v1, hv1⟩ : ∃ v1, v1 = x.val vs := ⟨_, rfl⟩
  have hvb1 := T.val_bd vs hvs x fx
  rw [← hv1] at hvb1 ⊢
  have HV1 := Lib.hid hv1
  have hB1 := HB.out.only ho (by omega)
  have HA1 := Lib.hid (HA.out.only ho HS.out)
  have hsz := ho.size
  simp only [World.size_alloc] at hsz
  have H1 := Lib.hid (And.intro (HO.out.trans ho) h2)
  obtain ⟨x0, x1, x2, f0, f1, f2⟩ := hB1.three
  have HB1 := Lib.hid hB1
  clear ho h2 hv1 hB1 HX HA HB HT HP HO
  have hk := pre_one (pre_right HPR.out)
  rw [← HV1.out] at hk
  have HK := Lib.hid hk
  clear hk
  go_wp2_with fail
  refine (get_next vs K m _ g _ lk1 ((n + v1) % 10) H1.out.2 hm h1 HK.out).mono ?_
  rintro e w2 ⟨ho, ⟨h3, rfl, lk2, h4⟩ | ⟨h3, ⟨u, rfl⟩, key, h4, h5⟩⟩
  · have H2 := Lib.hid (And.intro (H1.out.1.trans ho) h4)
    clear ho h4 x0 x1 x2 f0 f1 f2 e0 e1 e2
    go_wp2_with fail
    go_ret2
    rw [val_5, ← HV1.out]
    exact ⟨H2.out.1, .inl ⟨by simp only [List.length_append, List.length_cons, List.length_nil]; omega, rfl, lk2, by rw [List.length_append, ← Nat.add_assoc]; exact H2.out.2⟩⟩
  · have H2 := Lib.hid (And.intro (H1.out.1.trans ho) (And.intro h4 h5))
    clear ho h4 h5 x0 x1 x2 f0 f1 f2 e0 e1 e2
    go_wp2_with fail
    go_ret2
    exact ⟨H2.out.1, .inr ⟨by simp only [List.length_append, List.length_cons, List.length_nil]; omega, ⟨_, rfl⟩, key, H2.out.2⟩⟩

theorem do_all (vs : Int → Int) (hvs : ∀ k, 0 ≤ vs k ∧ vs k ≤ 96) (K : List Int) (m : Nat) (hm : m ≤ K.length) : ∀ t, t.fit = true → DoT vs K m t := T.ind fun k n ps ih hf => by
  generalize ht : T.mk k n ps = t at hf ⊢
  refine T.cases_fit (P := fun t => DoT vs K m t) t hf ?_ ?_ ?_ ?_ ?_ ?_
  · rintro n _ _ rfl; exact do_0 vs K m n
  · rintro n a0 a1 rfl; exact do_1 vs K m hm n
  · rintro a b ha hb rfl; injection ht with _ _ hps; subst hps; exact do_2 vs hvs K m a b ha hb (ih a (by simp) ha) (ih b (by simp) hb)
  · rintro a b ha hb rfl; injection ht with _ _ hps; subst hps; exact do_3 vs hvs K m a b ha hb (ih a (by simp) ha) (ih b (by simp) hb)
  · rintro a b c ha hb hc rfl; injection ht with _ _ hps; subst hps; exact do_4 vs hvs K m a b c ha (ih a (by simp) ha) (ih b (by simp) hb) (ih c (by simp) hc)
  · rintro n a a0 a1 ha rfl; injection ht with _ _ hps; subst hps; exact do_5 vs hvs K m hm n a0 a1 a ha (ih a (by simp) ha)
end Go.Proofs.Ytklmpagpkeffjaa
