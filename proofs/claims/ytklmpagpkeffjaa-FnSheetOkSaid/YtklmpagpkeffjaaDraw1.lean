/- l91Num, l91Key, l91Task: a task drawn -/
import Derived.Test.YtklmpagpkeffjaaOwn
import Derived.Test.YtklmpagpkeffjaaOk
namespace Go.Proofs.Ytklmpagpkeffjaa
open Go.RowKit

/-- A number from lo to hi was drawn, by at most d picks. -/
def Drew (g p d : Nat) (lo hi : Int) (w : World) (e : Ending) (w' : World) : Prop := ∃ (r : Int) (p' : Nat), e = .returned (.int .i64 r) ∧ lo ≤ r ∧ r ≤ hi ∧ p ≤ p' ∧ p' ≤ p + d ∧ RdAt w' g p' ∧ Only g w w'
/-- A task was drawn, by at most d picks: a fitting one of at most m nodes, in new memory. -/
def DrewT (g p d m : Nat) (w : World) (e : Ending) (w' : World) : Prop := ∃ (t : T) (a : Option Addr) (c p' : Nat), e = .returned (.agg #[.int .i64 t.k, .int .i64 t.n, .slice a t.ps.length c]) ∧ OwS w' 42 (fun b => w.heap.size ≤ b ∧ b < w'.heap.size) t.ps a c ∧
  i64ok t.k ∧ i64ok t.n ∧ t.fit = true ∧ t.nodes ≤ m ∧ p ≤ p' ∧ p' ≤ p + d ∧ RdAt w' g p' ∧ Only g w w'

/-- l91Key: a key below 10. -/
theorem key_any (w : World) (g p : Nat) (below : Int) (hr : RdAt w g p) (hp : p ≤ 999990) (h1 : 1 ≤ below) (h2 : below ≤ 10) :
    Calls Try.prog 134 #[.pointer (some ⟨g, 0, none⟩), .int .i64 below] w (Drew g p 2 0 9 w) := by
  have HR := Lib.hid hr
  clear hr
  go_enter Try.func134, Try.ntmps134
  go_wp2_with fail
  refine (pick_any _ g p 25 HR.out (by omega) (by omega) (by omega)).mono ?_
  rintro e w1 ⟨r, rfl, hr0, hr1, hrd, ho⟩
  have HR1 := Lib.hid hrd
  have HO1 := Lib.hid ho
  clear hrd ho HR hr1
  by_cases h : r = 0
  · subst h
    go_wp2_with fail
    go_ret
    exact ⟨9, p + 1, rfl, by omega, by omega, by omega, by omega, HR1.out, HO1.out⟩
  · have hb : (r == 0) = false := by simpa using h
    clear h
    go_wp2_with fail
    refine (pick_any _ g (p + 1) below HR1.out (by omega) (by omega) (by omega)).mono ?_
    rintro e w2 ⟨r2, rfl, hr20, hr21, hrd, ho⟩
    have HR2 := Lib.hid hrd
    have HO2 := Lib.hid ho
    have hlt := hr21 h1
    clear hrd ho hr21
    go_wp2_with fail
    go_ret
    exact ⟨r2, p + 2, rfl, by omega, by omega, by omega, by omega, HR2.out, HO1.out.trans HO2.out⟩

def dN : Nat → Nat | 0 => 3 | k + 1 => 3 + 3 * dN k
def nN : Nat → Nat | 0 => 1 | k + 1 => 1 + 3 * nN k
theorem dN_ge (k : Nat) : 3 ≤ dN k := by cases k <;> simp [dN]
theorem nN_ge (k : Nat) : 1 ≤ nN k := by cases k <;> simp [nN]

def DTask (k : Nat) : Prop := ∀ (w : World) (g p : Nat) (below : Int), RdAt w g p → p + dN k ≤ 999990 → 0 ≤ below → below ≤ 10 →
  Calls Try.prog 122 #[.pointer (some ⟨g, 0, none⟩), .int .i64 below, .int .i64 k] w (DrewT g p (dN k) (nN k) w)

theorem drewT_end {w w2 : World} {g p p' d m : Nat} {kd n : Int} (hgl : g < w.heap.size) (hO : Only g w w2) (hR : RdAt w2 g p')
    (ok1 : i64ok kd) (ok2 : i64ok n) (hf : (T.mk kd n []).fit = true) (hm : (T.mk kd n []).nodes ≤ m) (h1 : p ≤ p') (h2 : p' ≤ p + d) :
    DrewT g p d m w (.returned (.agg #[.int .i64 kd, .int .i64 n, .slice none 0 0]))
      (((w2.setCell ⟨w.heap.size, 0, none⟩ (.int .i64 kd)).setCell ⟨w.heap.size, 1, none⟩ (.int .i64 n)).setCell ⟨w.heap.size, 2, none⟩ (.slice none 0 0)) := by
  refine ⟨.mk kd n [], none, 0, p', rfl, OwS.nil, ok1, ok2, hf, hm, h1, h2, ?_, ?_⟩
  · refine hR.keep fun k hk => ?_
    rw [Below.heap_setCell _ _ _ _ (by simp; omega), Below.heap_setCell _ _ _ _ (by simp; omega), Below.heap_setCell _ _ _ _ (by simp; omega)]
  · exact ((hO.set (.inr (by simp)) _).set (.inr (by simp)) _).set (.inr (by simp)) _

theorem drewT_node {w w3 : World} {g p p' d m : Nat} {kd n : Int} (xs : List (T × Option Addr × Nat)) (ps : List T) (hps : ps = xs.map (·.1)) (cs : Array Value) (hcs : cs.toList = flat xs) (hgl : g < w.heap.size) (hgt : w.heap.size < w3.heap.size) (hO : Only g w w3) (hR : RdAt w3 g p')
    (hx : Parted w3 42 (fun b => w.heap.size < b ∧ b < w3.heap.size) xs)
    (ok1 : i64ok kd) (ok2 : i64ok n) (hf : (T.mk kd n ps).fit = true) (hm : (T.mk kd n ps).nodes ≤ m) (hl : ps.length ≤ 3) (h1 : p ≤ p') (h2 : p' ≤ p + d) :
    DrewT g p d m w (.returned (.agg #[.int .i64 kd, .int .i64 n, .slice (some ⟨w3.heap.size, 0, none⟩) ps.length ps.length]))
      ((((w3.setCell ⟨w.heap.size, 0, none⟩ (.int .i64 kd)).setCell ⟨w.heap.size, 1, none⟩ (.int .i64 n)).setCell ⟨w.heap.size, 2, none⟩ (.slice (some ⟨w3.heap.size, 0, none⟩) ps.length ps.length)).alloc (.cells cs 42)) := by
  generalize hv : (Value.slice (some ⟨w3.heap.size, 0, none⟩) ps.length ps.length) = sv
  have hsz : (((w3.setCell ⟨w.heap.size, 0, none⟩ (.int .i64 kd)).setCell ⟨w.heap.size, 1, none⟩ (.int .i64 n)).setCell ⟨w.heap.size, 2, none⟩ sv).heap.size = w3.heap.size := by simp [World.setCell]
  have hold : ∀ k, k ≠ w.heap.size → (((w3.setCell ⟨w.heap.size, 0, none⟩ (.int .i64 kd)).setCell ⟨w.heap.size, 1, none⟩ (.int .i64 n)).setCell ⟨w.heap.size, 2, none⟩ sv).heap[k]? = w3.heap[k]? := fun k hk => by
    rw [Below.heap_setCell _ _ _ _ (by simpa using hk), Below.heap_setCell _ _ _ _ (by simpa using hk), Below.heap_setCell _ _ _ _ (by simpa using hk)]
  have hon : Only g w (((w3.setCell ⟨w.heap.size, 0, none⟩ (.int .i64 kd)).setCell ⟨w.heap.size, 1, none⟩ (.int .i64 n)).setCell ⟨w.heap.size, 2, none⟩ sv) := ((hO.set (.inr (by simp)) _).set (.inr (by simp)) _).set (.inr (by simp)) _
  generalize (((w3.setCell ⟨w.heap.size, 0, none⟩ (.int .i64 kd)).setCell ⟨w.heap.size, 1, none⟩ (.int .i64 n)).setCell ⟨w.heap.size, 2, none⟩ sv) = w4 at *
  have how : OwS (w4.alloc (.cells cs 42)) 42 (fun b => w.heap.size ≤ b ∧ b < (w4.alloc (.cells cs 42)).heap.size) ps (some ⟨w4.heap.size, 0, none⟩) ps.length :=
    OwS.of_new (w := w3) (F := fun b => w.heap.size < b ∧ b < w3.heap.size) xs ps hps cs hcs (fun b hb => ⟨by omega, by simp; omega⟩) (fun b hb _ => hold b (by omega)) hx (fun b hb => by omega) ⟨by omega, by simp⟩ (by omega)
  rw [hsz] at how
  refine ⟨.mk kd n ps, some ⟨w3.heap.size, 0, none⟩, ps.length, p', by rw [← hv]; rfl, how, ok1, ok2, hf, hm, h1, h2, ?_, hon.alloc _⟩
  refine hR.keep fun k hk => ?_
  have := hR.lt
  rw [Below.heap_alloc _ _ _ (by omega)]
  exact hold k (by omega)

theorem parted1 {w : World} {e : TypeId} {F A : Nat → Prop} {t : T} {a : Option Addr} {c : Nat} (h : i64ok t.k ∧ i64ok t.n ∧ OwS w e A t.ps a c) (hA : ∀ b, A b → F b) : Parted w e F [(t, a, c)] :=
  ⟨A, fun _ => False, hA, fun _ h => h.elim, fun _ _ h => h, h.1, h.2.1, h.2.2, trivial⟩
theorem parted2 {w : World} {e : TypeId} {F A B : Nat → Prop} {t u : T} {a b : Option Addr} {c d : Nat} (h : i64ok t.k ∧ i64ok t.n ∧ OwS w e A t.ps a c) (k : i64ok u.k ∧ i64ok u.n ∧ OwS w e B u.ps b d) (hA : ∀ b, A b → F b) (hB : ∀ b, B b → F b) (hd : ∀ b, A b → ¬ B b) :
    Parted w e F [(t, a, c), (u, b, d)] :=
  ⟨A, B, hA, hB, hd, h.1, h.2.1, h.2.2, parted1 k fun _ h => h⟩
theorem parted3 {w : World} {e : TypeId} {F A B C : Nat → Prop} {t u v : T} {a b x : Option Addr} {c d y : Nat} (h : i64ok t.k ∧ i64ok t.n ∧ OwS w e A t.ps a c) (k : i64ok u.k ∧ i64ok u.n ∧ OwS w e B u.ps b d) (l : i64ok v.k ∧ i64ok v.n ∧ OwS w e C v.ps x y)
    (hA : ∀ b, A b → F b) (hB : ∀ b, B b → F b) (hC : ∀ b, C b → F b) (hd : ∀ b, A b → ¬ B b) (hd' : ∀ b, A b → ¬ C b) (hd'' : ∀ b, B b → ¬ C b) :
    Parted w e F [(t, a, c), (u, b, d), (v, x, y)] :=
  ⟨A, fun b => B b ∨ C b, hA, fun b hb => hb.elim (hB b) (hC b), fun b hb hh => hh.elim (hd b hb) (hd' b hb), h.1, h.2.1, h.2.2, parted2 k l (fun _ h => .inl h) (fun _ h => .inr h) hd''⟩

theorem fit_two (k : Int) (hk : k = 2 ∨ k = 3) (t u : T) (h1 : t.fit = true) (h2 : u.fit = true) : (T.mk k 0 [t, u]).fit = true := by rcases hk with rfl | rfl <;> simp [T.fit, fit1, shp, fitL, h1, h2]
theorem fit_three (t u v : T) (h1 : t.fit = true) (h2 : u.fit = true) (h3 : v.fit = true) : (T.mk 4 0 [t, u, v]).fit = true := by simp [T.fit, fit1, shp, fitL, h1, h2, h3]
theorem fit_at (n : Int) (h0 : 0 ≤ n) (h9 : n ≤ 9) (t : T) (h1 : t.fit = true) : (T.mk 5 n [t]).fit = true := by simp [T.fit, fit1, shp, fitL, h1]; omega

theorem fit_num (n : Int) (h0 : 0 ≤ n) (h1 : n ≤ 96) : (T.mk 0 n []).fit = true := by simp [T.fit, fit1, shp, fitL]; omega
theorem fit_get (n : Int) (h0 : 0 ≤ n) (h1 : n ≤ 9) : (T.mk 1 n []).fit = true := by simp [T.fit, fit1, shp, fitL]; omega

set_option maxHeartbeats 1000000 in
theorem dtask_of (k : Nat) (ih : ∀ j, k = j + 1 → DTask j) (hk : k ≤ 3) : DTask k := by
  intro w g p below hr hp hb0 hb1
  have hgl := hr.lt
  have hgn : w.heap.size ≠ g := by omega
  have HR := Lib.hid (hr.alloc (.cells #[.int .i64 0, .int .i64 0, .slice none 0 0] 42))
  have HI := Lib.hid ih
  have hd := dN_ge k
  clear hr ih
  go_enter Try.func122, Try.ntmps122
  go_wp2_with fail
  refine (pick_any _ g p 9 HR.out (by omega) (by omega) (by omega)).mono ?_
  rintro e w1 ⟨r, rfl, hr0, hr1, hrd, ho⟩
  have hr9 := hr1 (by omega)
  have HR1 := Lib.hid hrd
  have HO1 := Lib.hid (((Only.refl g w).alloc _).trans ho)
  have HK1 := Lib.hid ((Blk.new w 42 #[.int .i64 0, .int .i64 0, .slice none 0 0]).only ho hgn)
  have hz1 : w.heap.size < w1.heap.size := HK1.out.lt
  obtain ⟨x0, x1, x2, f0, f1, f2⟩ := HK1.out.three
  clear hrd ho hr1 HR
  rcases (show k = 0 ∨ (k ≠ 0 ∧ r < 3) ∨ (k ≠ 0 ∧ 3 ≤ r) by omega) with hk0 | ⟨hk0, hr3⟩ | ⟨hk0, hr3⟩
  · have hkb : ((k : Int) == 0) = true := by simp [hk0]
    clear hk0
    by_cases hnum : r % 2 = 0
    · have hb : (r % 2 == 0) = true := by simp [hnum]
      clear hnum
      go_wp2_with fail
      refine (pick_any _ g (p + 1) 97 HR1.out (by omega) (by omega) (by omega)).mono ?_
      rintro e w2 ⟨r2, rfl, hr20, hr21, hrd, ho⟩
      have hr97 := hr21 (by omega)
      have HE := Lib.hid (And.intro hrd (And.intro (HO1.out.trans ho) (HK1.out.only ho hgn)))
      obtain ⟨y0, y1, y2, g0, g1, g2⟩ := HE.out.2.2.three
      clear hrd ho hr21 x0 x1 x2 f0 f1 f2
      go_wp2_with fail
      refine bodyPost_ret (v := .agg #[.int .i64 0, .int .i64 r2, .slice none 0 0]) (by simp [results, Try.results122, go_sem, y0, y1, y2]) rfl ?_
      exact drewT_end (kd := 0) (n := r2) hgl HE.out.2.1 HE.out.1 (by simp [i64ok]) (by simp [i64ok]; omega) (fit_num _ hr20 (by omega)) (by have := nN_ge k; simpa [T.nodes, nodesL] using this) (by omega) (by omega)
    have hb : (r % 2 == 0) = false := by simpa using hnum
    clear hnum
    by_cases hbz : below = 0
    · have hbb : (below == 0) = true := by simp [hbz]
      clear hbz
      go_wp2_with fail
      refine (pick_any _ g (p + 1) 97 HR1.out (by omega) (by omega) (by omega)).mono ?_
      rintro e w2 ⟨r2, rfl, hr20, hr21, hrd, ho⟩
      have hr97 := hr21 (by omega)
      have HE := Lib.hid (And.intro hrd (And.intro (HO1.out.trans ho) (HK1.out.only ho hgn)))
      obtain ⟨y0, y1, y2, g0, g1, g2⟩ := HE.out.2.2.three
      clear hrd ho hr21 x0 x1 x2 f0 f1 f2
      go_wp2_with fail
      refine bodyPost_ret (v := .agg #[.int .i64 0, .int .i64 r2, .slice none 0 0]) (by simp [results, Try.results122, go_sem, y0, y1, y2]) rfl ?_
      exact drewT_end (kd := 0) (n := r2) hgl HE.out.2.1 HE.out.1 (by simp [i64ok]) (by simp [i64ok]; omega) (fit_num _ hr20 (by omega)) (by have := nN_ge k; simpa [T.nodes, nodesL] using this) (by omega) (by omega)
    · have hbb : (below == 0) = false := by simpa using hbz
      have hb1' : 1 ≤ below := by omega
      clear hbz
      go_wp2_with fail
      refine (key_any _ g (p + 1) below HR1.out (by omega) (by omega) (by omega)).mono ?_
      rintro e w2 ⟨r2, p2, rfl, hr20, hr21, hp0, hp1, hrd, ho⟩
      have HE := Lib.hid (And.intro hrd (And.intro (HO1.out.trans ho) (HK1.out.only ho hgn)))
      obtain ⟨y0, y1, y2, g0, g1, g2⟩ := HE.out.2.2.three
      clear hrd ho x0 x1 x2 f0 f1 f2
      go_wp2_with fail
      refine bodyPost_ret (v := .agg #[.int .i64 1, .int .i64 r2, .slice none 0 0]) (by simp [results, Try.results122, go_sem, y0, y1, y2]) rfl ?_
      exact drewT_end (kd := 1) (n := r2) hgl HE.out.2.1 HE.out.1 (by simp [i64ok]) (by simp [i64ok]; omega) (fit_get _ hr20 (by omega)) (by have := nN_ge k; simpa [T.nodes, nodesL] using this) (by omega) (by omega)
  · have hkb : ((k : Int) == 0) = false := by simpa using hk0
    clear hk0
    by_cases hnum : r % 2 = 0
    · have hb : (r % 2 == 0) = true := by simp [hnum]
      clear hnum
      go_wp2_with fail
      refine (pick_any _ g (p + 1) 97 HR1.out (by omega) (by omega) (by omega)).mono ?_
      rintro e w2 ⟨r2, rfl, hr20, hr21, hrd, ho⟩
      have hr97 := hr21 (by omega)
      have HE := Lib.hid (And.intro hrd (And.intro (HO1.out.trans ho) (HK1.out.only ho hgn)))
      obtain ⟨y0, y1, y2, g0, g1, g2⟩ := HE.out.2.2.three
      clear hrd ho hr21 x0 x1 x2 f0 f1 f2
      go_wp2_with fail
      refine bodyPost_ret (v := .agg #[.int .i64 0, .int .i64 r2, .slice none 0 0]) (by simp [results, Try.results122, go_sem, y0, y1, y2]) rfl ?_
      exact drewT_end (kd := 0) (n := r2) hgl HE.out.2.1 HE.out.1 (by simp [i64ok]) (by simp [i64ok]; omega) (fit_num _ hr20 (by omega)) (by have := nN_ge k; simpa [T.nodes, nodesL] using this) (by omega) (by omega)
    have hb : (r % 2 == 0) = false := by simpa using hnum
    clear hnum
    by_cases hbz : below = 0
    · have hbb : (below == 0) = true := by simp [hbz]
      clear hbz
      go_wp2_with fail
      refine (pick_any _ g (p + 1) 97 HR1.out (by omega) (by omega) (by omega)).mono ?_
      rintro e w2 ⟨r2, rfl, hr20, hr21, hrd, ho⟩
      have hr97 := hr21 (by omega)
      have HE := Lib.hid (And.intro hrd (And.intro (HO1.out.trans ho) (HK1.out.only ho hgn)))
      obtain ⟨y0, y1, y2, g0, g1, g2⟩ := HE.out.2.2.three
      clear hrd ho hr21 x0 x1 x2 f0 f1 f2
      go_wp2_with fail
      refine bodyPost_ret (v := .agg #[.int .i64 0, .int .i64 r2, .slice none 0 0]) (by simp [results, Try.results122, go_sem, y0, y1, y2]) rfl ?_
      exact drewT_end (kd := 0) (n := r2) hgl HE.out.2.1 HE.out.1 (by simp [i64ok]) (by simp [i64ok]; omega) (fit_num _ hr20 (by omega)) (by have := nN_ge k; simpa [T.nodes, nodesL] using this) (by omega) (by omega)
    · have hbb : (below == 0) = false := by simpa using hbz
      have hb1' : 1 ≤ below := by omega
      clear hbz
      go_wp2_with fail
      refine (key_any _ g (p + 1) below HR1.out (by omega) (by omega) (by omega)).mono ?_
      rintro e w2 ⟨r2, p2, rfl, hr20, hr21, hp0, hp1, hrd, ho⟩
      have HE := Lib.hid (And.intro hrd (And.intro (HO1.out.trans ho) (HK1.out.only ho hgn)))
      obtain ⟨y0, y1, y2, g0, g1, g2⟩ := HE.out.2.2.three
      clear hrd ho x0 x1 x2 f0 f1 f2
      go_wp2_with fail
      refine bodyPost_ret (v := .agg #[.int .i64 1, .int .i64 r2, .slice none 0 0]) (by simp [results, Try.results122, go_sem, y0, y1, y2]) rfl ?_
      exact drewT_end (kd := 1) (n := r2) hgl HE.out.2.1 HE.out.1 (by simp [i64ok]) (by simp [i64ok]; omega) (fit_get _ hr20 (by omega)) (by have := nN_ge k; simpa [T.nodes, nodesL] using this) (by omega) (by omega)
  · obtain ⟨j, rfl⟩ : ∃ j, k = j + 1 := ⟨k - 1, by omega⟩
    have hkb : ((j : Int) + 1 == 0) = false := by simp; omega
    have H := Lib.hid (HI.out j rfl)
    have hdj : dN (j + 1) = 3 + 3 * dN j := rfl
    have hnj : nN (j + 1) = 1 + 3 * nN j := rfl
    have HD := Lib.hid (And.intro hdj hnj)
    have hdj1 : p + 3 + 3 * dN j ≤ 999990 := by omega
    clear hk0 HI hdj hnj hp hd
    by_cases h5 : r < 5
    · have hq5 : 0 ≤ r := hr0
      go_wp2_with fail
      refine (H.out _ g (p + 1) below HR1.out (by omega) hb0 hb1).mono ?_
      rintro e w2 ⟨t1, a1, c1, p2, rfl, hat1, ok1, ok1', hf1, hm1, hp0, hp1, hrd, ho⟩
      have hsz_w2 := ho.size
      have HE2 := Lib.hid (And.intro hrd (And.intro (HO1.out.trans ho) (HK1.out.only ho hgn)))
      have HT1 := Lib.hid (And.intro ok1 (And.intro ok1' hat1))
      have HF1 := Lib.hid hf1
      clear hrd ho hat1 x0 x1 x2 f0 f1 f2 ok1 ok1' hf1
      go_wp2_with fail
      refine (H.out _ g p2 below HE2.out.1 (by omega) hb0 hb1).mono ?_
      rintro e w3 ⟨t2, a2, c2, p3, rfl, hat2, ok2, ok2', hf2, hm2, hp2, hp3, hrd, ho⟩
      have hsz_w3 := ho.size
      have HE3 := Lib.hid (And.intro hrd (And.intro (HE2.out.2.1.trans ho) (HE2.out.2.2.only ho hgn)))
      have hz2 := HE2.out.2.2.lt
      have HT2 := Lib.hid (And.intro ok2 (And.intro ok2' hat2))
      have HT1' := Lib.hid (And.intro HT1.out.1 (And.intro HT1.out.2.1 (HT1.out.2.2.only (g := g) (by intro b hb; omega) ho)))
      have HF2 := Lib.hid hf2
      clear hrd ho hat2 ok2 ok2' hf2 HT1
      obtain ⟨y0, y1, y2, g0, g1, g2⟩ := HE3.out.2.2.three
      have hz3 := HE3.out.2.2.lt
      go_wp2_with fail
      refine bodyPost_ret (v := .agg #[.int .i64 2, .int .i64 0, .slice (some ⟨w3.heap.size, 0, none⟩) 2 2]) (by simp [results, Try.results122, go_sem, y0, y1, y2, hz3]) rfl ?_
      exact drewT_node [(t1, a1, c1), (t2, a2, c2)] [t1, t2] rfl _ rfl hgl hz3 HE3.out.2.1 HE3.out.1 (parted2 HT1'.out HT2.out (by intro b hb; omega) (by intro b hb; omega) (by intro b hb; omega)) (by simp [i64ok]) (by simp [i64ok]) (fit_two 2 (by simp) _ _ HF1.out HF2.out)
        (by have := HD.out.2; simp only [T.nodes, nodesL]; omega) (by simp) (by omega) (by have := HD.out.1; omega)
    by_cases h6 : r = 5
    · have h6b : (r == 5) = true := by simp [h6]
      clear h6
      go_wp2_with fail
      refine (H.out _ g (p + 1) below HR1.out (by omega) hb0 hb1).mono ?_
      rintro e w2 ⟨t1, a1, c1, p2, rfl, hat1, ok1, ok1', hf1, hm1, hp0, hp1, hrd, ho⟩
      have hsz_w2 := ho.size
      have HE2 := Lib.hid (And.intro hrd (And.intro (HO1.out.trans ho) (HK1.out.only ho hgn)))
      have HT1 := Lib.hid (And.intro ok1 (And.intro ok1' hat1))
      have HF1 := Lib.hid hf1
      clear hrd ho hat1 x0 x1 x2 f0 f1 f2 ok1 ok1' hf1
      go_wp2_with fail
      refine (H.out _ g p2 below HE2.out.1 (by omega) hb0 hb1).mono ?_
      rintro e w3 ⟨t2, a2, c2, p3, rfl, hat2, ok2, ok2', hf2, hm2, hp2, hp3, hrd, ho⟩
      have hsz_w3 := ho.size
      have HE3 := Lib.hid (And.intro hrd (And.intro (HE2.out.2.1.trans ho) (HE2.out.2.2.only ho hgn)))
      have hz2 := HE2.out.2.2.lt
      have HT2 := Lib.hid (And.intro ok2 (And.intro ok2' hat2))
      have HT1' := Lib.hid (And.intro HT1.out.1 (And.intro HT1.out.2.1 (HT1.out.2.2.only (g := g) (by intro b hb; omega) ho)))
      have HF2 := Lib.hid hf2
      clear hrd ho hat2 ok2 ok2' hf2 HT1
      obtain ⟨y0, y1, y2, g0, g1, g2⟩ := HE3.out.2.2.three
      have hz3 := HE3.out.2.2.lt
      go_wp2_with fail
      refine bodyPost_ret (v := .agg #[.int .i64 3, .int .i64 0, .slice (some ⟨w3.heap.size, 0, none⟩) 2 2]) (by simp [results, Try.results122, go_sem, y0, y1, y2, hz3]) rfl ?_
      exact drewT_node [(t1, a1, c1), (t2, a2, c2)] [t1, t2] rfl _ rfl hgl hz3 HE3.out.2.1 HE3.out.1 (parted2 HT1'.out HT2.out (by intro b hb; omega) (by intro b hb; omega) (by intro b hb; omega)) (by simp [i64ok]) (by simp [i64ok]) (fit_two 3 (by simp) _ _ HF1.out HF2.out)
        (by have := HD.out.2; simp only [T.nodes, nodesL]; omega) (by simp) (by omega) (by have := HD.out.1; omega)
    have h6b : (r == 5) = false := by simpa using h6
    by_cases h8 : r < 8
    · have hq8 : 0 ≤ r := hr0
      go_wp2_with fail
      refine (H.out _ g (p + 1) below HR1.out (by omega) hb0 hb1).mono ?_
      rintro e w2 ⟨t1, a1, c1, p2, rfl, hat1, ok1, ok1', hf1, hm1, hp0, hp1, hrd, ho⟩
      have hsz_w2 := ho.size
      have HE2 := Lib.hid (And.intro hrd (And.intro (HO1.out.trans ho) (HK1.out.only ho hgn)))
      have HT1 := Lib.hid (And.intro ok1 (And.intro ok1' hat1))
      have HF1 := Lib.hid hf1
      clear hrd ho hat1 x0 x1 x2 f0 f1 f2 ok1 ok1' hf1
      go_wp2_with fail
      refine (H.out _ g p2 below HE2.out.1 (by omega) hb0 hb1).mono ?_
      rintro e w3 ⟨t2, a2, c2, p3, rfl, hat2, ok2, ok2', hf2, hm2, hp2, hp3, hrd, ho⟩
      have hsz_w3 := ho.size
      have HE3 := Lib.hid (And.intro hrd (And.intro (HE2.out.2.1.trans ho) (HE2.out.2.2.only ho hgn)))
      have hz2 := HE2.out.2.2.lt
      have HT2 := Lib.hid (And.intro ok2 (And.intro ok2' hat2))
      have HT1' := Lib.hid (And.intro HT1.out.1 (And.intro HT1.out.2.1 (HT1.out.2.2.only (g := g) (by intro b hb; omega) ho)))
      have HF2 := Lib.hid hf2
      clear hrd ho hat2 ok2 ok2' hf2 HT1
      go_wp2_with fail
      refine (H.out _ g p3 below HE3.out.1 (by omega) hb0 hb1).mono ?_
      rintro e w4 ⟨t3, a3, c3, p4, rfl, hat3, ok3, ok3', hf3, hm3, hp4, hp5, hrd, ho⟩
      have hsz_w4 := ho.size
      have HE4 := Lib.hid (And.intro hrd (And.intro (HE3.out.2.1.trans ho) (HE3.out.2.2.only ho hgn)))
      have hz3 := HE3.out.2.2.lt
      have HT3 := Lib.hid (And.intro ok3 (And.intro ok3' hat3))
      have HT1'' := Lib.hid (And.intro HT1'.out.1 (And.intro HT1'.out.2.1 (HT1'.out.2.2.only (g := g) (by intro b hb; omega) ho)))
      have HT2' := Lib.hid (And.intro HT2.out.1 (And.intro HT2.out.2.1 (HT2.out.2.2.only (g := g) (by intro b hb; omega) ho)))
      have HF3 := Lib.hid hf3
      clear hrd ho hat3 ok3 ok3' hf3 HT1' HT2
      obtain ⟨y0, y1, y2, g0, g1, g2⟩ := HE4.out.2.2.three
      have hz4 := HE4.out.2.2.lt
      go_wp2_with fail
      refine bodyPost_ret (v := .agg #[.int .i64 4, .int .i64 0, .slice (some ⟨w4.heap.size, 0, none⟩) 3 3]) (by simp [results, Try.results122, go_sem, y0, y1, y2, hz4]) rfl ?_
      exact drewT_node [(t1, a1, c1), (t2, a2, c2), (t3, a3, c3)] [t1, t2, t3] rfl _ rfl hgl hz4 HE4.out.2.1 HE4.out.1 (parted3 HT1''.out HT2'.out HT3.out (by intro b hb; omega) (by intro b hb; omega) (by intro b hb; omega) (by intro b hb; omega) (by intro b hb; omega) (by intro b hb; omega)) (by simp [i64ok]) (by simp [i64ok]) (fit_three _ _ _ HF1.out HF2.out HF3.out)
        (by have := HD.out.2; simp only [T.nodes, nodesL]; omega) (by simp) (by omega) (by have := HD.out.1; omega)
    go_wp2_with fail
    refine (pick_any _ g (p + 1) 3 HR1.out (by omega) (by omega) (by omega)).mono ?_
    rintro e w1' ⟨r', rfl, hr0', hr1', hrd, ho⟩
    have HR1' := Lib.hid hrd
    have HO1' := Lib.hid (HO1.out.trans ho)
    have HK1' := Lib.hid (HK1.out.only ho hgn)
    clear hrd ho hr1' HR1 HO1 HK1 x0 x1 x2 f0 f1 f2
    have HR1 := HR1'
    have HO1 := HO1'
    have HK1 := HK1'
    have hz1 := HK1.out.lt
    obtain ⟨x0, x1, x2, f0, f1, f2⟩ := HK1.out.three
    by_cases hz : 0 < r'
    · have hq9 : 0 ≤ r := hr0
      go_wp2_with fail
      refine (H.out _ g (p + 1 + 1) below HR1.out (by omega) hb0 hb1).mono ?_
      rintro e w2 ⟨t1, a1, c1, p2, rfl, hat1, ok1, ok1', hf1, hm1, hp0, hp1, hrd, ho⟩
      have hsz_w2 := ho.size
      have HE2 := Lib.hid (And.intro hrd (And.intro (HO1.out.trans ho) (HK1.out.only ho hgn)))
      have HT1 := Lib.hid (And.intro ok1 (And.intro ok1' hat1))
      have HF1 := Lib.hid hf1
      clear hrd ho hat1 x0 x1 x2 f0 f1 f2 ok1 ok1' hf1
      go_wp2_with fail
      refine (H.out _ g p2 below HE2.out.1 (by omega) hb0 hb1).mono ?_
      rintro e w3 ⟨t2, a2, c2, p3, rfl, hat2, ok2, ok2', hf2, hm2, hp2, hp3, hrd, ho⟩
      have hsz_w3 := ho.size
      have HE3 := Lib.hid (And.intro hrd (And.intro (HE2.out.2.1.trans ho) (HE2.out.2.2.only ho hgn)))
      have hz2 := HE2.out.2.2.lt
      have HT2 := Lib.hid (And.intro ok2 (And.intro ok2' hat2))
      have HT1' := Lib.hid (And.intro HT1.out.1 (And.intro HT1.out.2.1 (HT1.out.2.2.only (g := g) (by intro b hb; omega) ho)))
      have HF2 := Lib.hid hf2
      clear hrd ho hat2 ok2 ok2' hf2 HT1
      go_wp2_with fail
      refine (H.out _ g p3 below HE3.out.1 (by omega) hb0 hb1).mono ?_
      rintro e w4 ⟨t3, a3, c3, p4, rfl, hat3, ok3, ok3', hf3, hm3, hp4, hp5, hrd, ho⟩
      have hsz_w4 := ho.size
      have HE4 := Lib.hid (And.intro hrd (And.intro (HE3.out.2.1.trans ho) (HE3.out.2.2.only ho hgn)))
      have hz3 := HE3.out.2.2.lt
      have HT3 := Lib.hid (And.intro ok3 (And.intro ok3' hat3))
      have HT1'' := Lib.hid (And.intro HT1'.out.1 (And.intro HT1'.out.2.1 (HT1'.out.2.2.only (g := g) (by intro b hb; omega) ho)))
      have HT2' := Lib.hid (And.intro HT2.out.1 (And.intro HT2.out.2.1 (HT2.out.2.2.only (g := g) (by intro b hb; omega) ho)))
      have HF3 := Lib.hid hf3
      clear hrd ho hat3 ok3 ok3' hf3 HT1' HT2
      obtain ⟨y0, y1, y2, g0, g1, g2⟩ := HE4.out.2.2.three
      have hz4 := HE4.out.2.2.lt
      go_wp2_with fail
      refine bodyPost_ret (v := .agg #[.int .i64 4, .int .i64 0, .slice (some ⟨w4.heap.size, 0, none⟩) 3 3]) (by simp [results, Try.results122, go_sem, y0, y1, y2, hz4]) rfl ?_
      exact drewT_node [(t1, a1, c1), (t2, a2, c2), (t3, a3, c3)] [t1, t2, t3] rfl _ rfl hgl hz4 HE4.out.2.1 HE4.out.1 (parted3 HT1''.out HT2'.out HT3.out (by intro b hb; omega) (by intro b hb; omega) (by intro b hb; omega) (by intro b hb; omega) (by intro b hb; omega) (by intro b hb; omega)) (by simp [i64ok]) (by simp [i64ok]) (fit_three _ _ _ HF1.out HF2.out HF3.out)
        (by have := HD.out.2; simp only [T.nodes, nodesL]; omega) (by simp) (by omega) (by have := HD.out.1; omega)
    · have hq9 : 0 ≤ r := hr0
      go_wp2_with fail
      refine (pick_any _ g (p + 2) 10 HR1.out (by omega) (by omega) (by omega)).mono ?_
      rintro e w2 ⟨r3, rfl, hr30, hr31, hrd, ho⟩
      have hr39 := hr31 (by omega)
      have HE2 := Lib.hid (And.intro hrd (And.intro (HO1.out.trans ho) (HK1.out.only ho hgn)))
      clear hrd ho hr31 x0 x1 x2 f0 f1 f2
      go_wp2_with fail
      refine (H.out _ g (p + 2 + 1) below HE2.out.1 (by omega) hb0 hb1).mono ?_
      rintro e w3 ⟨t1, a1, c1, p2, rfl, hat1, ok1, ok1', hf1, hm1, hp0, hp1, hrd, ho⟩
      have hsz_w3 := ho.size
      have hz2 := HE2.out.2.2.lt
      have HE3 := Lib.hid (And.intro hrd (And.intro (HE2.out.2.1.trans ho) (HE2.out.2.2.only ho hgn)))
      have HT1 := Lib.hid (And.intro ok1 (And.intro ok1' hat1))
      have HF1 := Lib.hid hf1
      clear hrd ho hat1 ok1 ok1' hf1
      obtain ⟨y0, y1, y2, g0, g1, g2⟩ := HE3.out.2.2.three
      have hz3 := HE3.out.2.2.lt
      go_wp2_with fail
      refine bodyPost_ret (v := .agg #[.int .i64 5, .int .i64 r3, .slice (some ⟨w3.heap.size, 0, none⟩) 1 1]) (by simp [results, Try.results122, go_sem, y0, y1, y2, hz3]) rfl ?_
      exact drewT_node [(t1, a1, c1)] [t1] rfl _ rfl hgl hz3 HE3.out.2.1 HE3.out.1 (parted1 HT1.out (by intro b hb; omega)) (by simp [i64ok]) (by simp [i64ok]; omega) (fit_at _ hr30 (by omega) _ HF1.out)
        (by have := HD.out.2; simp only [T.nodes, nodesL]; omega) (by simp) (by omega) (by have := HD.out.1; omega)

theorem dtask_all : ∀ k, k ≤ 3 → DTask k
  | 0, h => dtask_of 0 (fun j hj => by omega) h
  | k + 1, h => dtask_of (k + 1) (fun j hj => by obtain rfl : k = j := by omega
                                                 exact dtask_all k (by omega)) h

end Go.Proofs.Ytklmpagpkeffjaa
