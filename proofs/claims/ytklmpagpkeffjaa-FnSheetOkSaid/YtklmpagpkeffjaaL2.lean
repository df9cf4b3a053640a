/- spec.l2Next, spec.l2Run -/
import Derived.Test.YtklmpagpkeffjaaDo
import Derived.Test.YtklmpagpkeffjaaLim
import Derived.Laws.AppendOwn
import Derived.OwnWalk
namespace Go.Proofs.Ytklmpagpkeffjaa
open Go.RowKit

theorem infoInt : (Try.prog.info? 3).map (fun i => (i.zero, i.size, i.bytes)) = some (some (.int .i64 0), 1, 8) := by kernel_rfl
theorem infoFetch : (Try.prog.info? 96).map (fun i => (i.zero, i.size, i.bytes)) = some (some (.agg #[.int .i64 0, .int .i64 0]), 2, 16) := by kernel_rfl

/-- v holds the numbers l, in memory of the call's own. -/
def NumRow (w : World) (base : Nat) (v : Value) (l : List Int) : Prop := w.ownsRow base 3 1 v l.length (l.map (Value.int .i64))
/-- The cells of what was fetched of keys. -/
def fc (vs : Int → Int) : List Int → List Value
  | [] => []
  | k :: r => .int .i64 k :: .int .i64 (vs k) :: fc vs r
theorem fc_append (vs : Int → Int) : ∀ a b : List Int, fc vs (a ++ b) = fc vs a ++ fc vs b
  | [], b => rfl
  | k :: r, b => by simp [fc, fc_append vs r b]
theorem fc_length (vs : Int → Int) : ∀ l : List Int, (fc vs l).length = l.length * 2
  | [] => rfl
  | k :: r => by simp [fc, fc_length vs r]; omega
/-- v holds what was fetched of the keys l. -/
def FeRow (vs : Int → Int) (w : World) (base : Nat) (v : Value) (l : List Int) : Prop := w.ownsRow base 96 2 v l.length (fc vs l)

theorem own_ne {w : World} {b1 b2 : Nat} {e1 e2 : TypeId} {s1 s2 : Nat} {v1 v2 : Value} {n1 n2 : Nat} {l1 l2 : List Value} (h1 : w.ownsRow b1 e1 s1 v1 n1 l1) (h2 : w.ownsRow b2 e2 s2 v2 n2 l2) (he : e1 ≠ e2) : v1.ownBlock = none ∨ v1.ownBlock ≠ v2.ownBlock := by
  obtain ⟨_, ⟨rfl, _⟩ | ⟨g1, c1, cur1, rfl, _, hh1, _⟩⟩ := h1
  · exact .inl rfl
  obtain ⟨_, ⟨rfl, _⟩ | ⟨g2, c2, cur2, rfl, _, hh2, _⟩⟩ := h2
  · exact .inr (by simp [Value.ownBlock])
  · refine .inr ?_
    simp only [Value.ownBlock, ne_eq, Option.some.injEq]
    rintro rfl
    rw [hh1] at hh2
    simp at hh2
    exact he hh2.2

theorem own_ge {w : World} {b : Nat} {e : TypeId} {s : Nat} {v : Value} {n : Nat} {l : List Value} (h : w.ownsRow b e s v n l) : ∀ k, v.ownBlock = some k → b ≤ k := fun k hk => (h.lt k hk).1

theorem below_grown {B : Nat} {w w' : World} {row : Option Nat} (h : w.grownBy w' row) (hB : B ≤ w.heap.size) (hr : ∀ k, row = some k → B ≤ k) : Below B w w' :=
  ⟨h.os, h.tape, h.output, h.size, fun i hi => h.block i (by omega) (by intro e; have := hr i e.symm; omega)⟩

theorem NumRow.at {w : World} {base : Nat} {v : Value} {l : List Int} (h : NumRow w base v l) (hl : ∀ x ∈ l, i64ok x) : ∃ a c, v = .slice a l.length c ∧ IntsAt w (fun b => base ≤ b) l a c := by
  have h' := h
  obtain ⟨_, ⟨rfl, h0⟩ | ⟨g, cap, cur, rfl, hb, hh, hn, hc, hz, _⟩⟩ := h
  · obtain rfl : l = [] := List.length_eq_zero_iff.1 h0
    exact ⟨none, 0, rfl, IntsAt.nil (by omega)⟩
  · refine ⟨_, _, rfl, hn, hc, hl, .inr ⟨g, 0, rfl, hb, fun i hi => ?_⟩⟩
    have := h'.cells (g := g) rfl i (.int .i64 l[i]) (by rw [List.getElem?_map, List.getElem?_eq_getElem hi]; rfl)
    have e : (⟨g, 0, none⟩ : Addr).add i = ⟨g, 0 + i, none⟩ := by unfold Addr.add; split <;> simp_all
    rw [e] at this
    exact this

/-- What l2Next leaves. -/
def NextPost (K : List Int) (m : Nat) (w : World) (v : Int) (e : Ending) (w' : World) : Prop :=
  Below w.heap.size w w' ∧ ((m = K.length ∧ ∃ lk, e = .returned (.tuple #[.int .i64 v, .int .i64 lk, .bool true])) ∨ (m < K.length ∧ ∃ u key, K[m]? = some key ∧ e = .returned (.tuple #[.int .i64 u, .int .i64 key, .bool false])))

set_option maxHeartbeats 1000000 in
theorem next_any (vs : Int → Int) (hvs : ∀ k, 0 ≤ vs k ∧ vs k ≤ 96) (t : T) (hf : t.fit = true) (m : Nat) (hm : m ≤ (t.kys vs).length) (w : World) (S S' : Nat → Prop) (a a' : Option Addr) (c c' : Nat)
    (hat : AtS w S t.ps a c) (hgot : IntsAt w S' (((t.kys vs).take m).map vs) a' c') :
    Calls Try.prog 108 #[.agg #[.int .i64 t.k, .int .i64 t.n, .slice a t.ps.length c], .slice a' m c'] w (NextPost (t.kys vs) m w (t.val vs)) := by
  have hl := got_len (vs := vs) hm
  have hta := hat.lim
  have HS := Lib.hid ((hta.alloc (.cells #[.int .i64 t.k, .int .i64 t.n, .slice a t.ps.length c] 42)).alloc (.cells #[.slice a' m c', .int .i64 0, .int .i64 0] 149))
  have hB := Blk.new (w.alloc (.cells #[.int .i64 t.k, .int .i64 t.n, .slice a t.ps.length c] 42)) 149 #[.slice a' m c', .int .i64 0, .int .i64 0]
  rw [World.size_alloc] at hB
  have hgl := (hgot.lim.alloc (.cells #[.int .i64 t.k, .int .i64 t.n, .slice a t.ps.length c] 42)).alloc (.cells #[.slice a' m c', .int .i64 0, .int .i64 0] 149)
  have HT := Lib.hid (show TpAt _ (w.heap.size + 1) (((t.kys vs).take m).map vs) 0 0 from ⟨a', c', by rw [hl]; exact hB, hgl.weaken (fun b hb => by omega)⟩)
  have HB0 := Lib.hid (((Below.refl w.heap.size w).alloc (Nat.le_refl _) (.cells #[.int .i64 t.k, .int .i64 t.n, .slice a t.ps.length c] 42)).alloc (by simp) (.cells #[.slice a' m c', .int .i64 0, .int .i64 0] 149))
  have HL := Lib.hid hl
  clear hat hgot hta hB hgl hl
  go_enter Try.func108, Try.ntmps108
  go_wp2_with fail
  refine (do_all vs hvs (t.kys vs) m hm t hf _ _ a c (w.heap.size + 1) 0 0 HS.out (fun b hb => by omega) HT.out (Nat.zero_le _) (List.prefix_rfl)).mono ?_
  rintro e w1 ⟨ho, ⟨h1, rfl, lk1, h2⟩ | ⟨h1, ⟨u, rfl⟩, key, h2, h3⟩⟩
  · have hb : Below w.heap.size w w1 := HB0.out.trans ⟨ho.os, ho.tape, ho.output, ho.size, fun k hk => ho.block k (by simp; omega) (by intro e; injection e; omega)⟩
    have HB1 := Lib.hid hb
    obtain ⟨a2, c2, hbk, _⟩ := h2
    obtain ⟨x0, x1, x2, f0, f1, f2⟩ := hbk.three
    obtain ⟨v, hv⟩ : ∃ v, v = t.val vs := ⟨_, rfl⟩
    rw [← hv]
    have HV := Lib.hid hv
    clear ho hb hbk hv
    go_wp2_with fail
    go_quiet (fail)
    go_wp2_with fail
    go_ret3
    refine ⟨below_drewN HB1.out _, .inl ⟨by omega, lk1, ?_⟩⟩
    rw [← HV.out]
    rfl
  · have hb : Below w.heap.size w w1 := HB0.out.trans ⟨ho.os, ho.tape, ho.output, ho.size, fun k hk => ho.block k (by simp; omega) (by intro e; injection e; omega)⟩
    have HB1 := Lib.hid hb
    have HK := Lib.hid h2
    obtain ⟨a2, c2, hbk, _⟩ := h3
    obtain ⟨x0, x1, x2, f0, f1, f2⟩ := hbk.three
    clear ho hb hbk h2
    go_wp2_with fail
    go_quiet (fail)
    go_wp2_with fail
    go_ret3
    exact ⟨below_drewN HB1.out _, .inr ⟨by omega, u, key, HK.out, rfl⟩⟩

/-- What l2Run leaves. -/
def RunPost (vs : Int → Int) (K : List Int) (w : World) (v : Int) (e : Ending) (w' : World) : Prop :=
  ∃ vo, e = .returned (.tuple #[.int .i64 v, vo]) ∧ FeRow vs w' w.heap.size vo K ∧ Below w.heap.size w w'

theorem rowF_new (vs : Int → Int) (w : World) : FeRow vs (w.alloc (.cells #[] 96)) w.heap.size (.slice (some ⟨w.heap.size, 0, none⟩) 0 0) [] :=
  ⟨by simp [fc], .inr ⟨w.heap.size, 0, #[], rfl, Nat.le_refl _, heap_alloc_new w _, Nat.le_refl _, by decide, by simp, by simp [fc]⟩⟩
theorem rowN_new (w : World) : NumRow (w.alloc (.cells #[] 3)) w.heap.size (.slice (some ⟨w.heap.size, 0, none⟩) 0 0) [] :=
  ⟨by simp, .inr ⟨w.heap.size, 0, #[], rfl, Nat.le_refl _, heap_alloc_new w _, Nat.le_refl _, by decide, by simp, by simp⟩⟩

theorem news2 (W : World) (t : TypeId) (x y : Value) : ∀ j u, [x, y][j]? = some u → (W.alloc (.cells #[x, y] t)).cell? ((⟨W.heap.size, 0, none⟩ : Addr).add j) = some u := by
  intro j u hj
  have e : (⟨W.heap.size, 0, none⟩ : Addr).add j = ⟨W.heap.size, j, none⟩ := by unfold Addr.add; split <;> simp_all
  rw [e, World.cell?_alloc_new, ← hj]
  simp
theorem news1 (W : World) (t : TypeId) (x : Value) : ∀ j u, [x][j]? = some u → (W.alloc (.cells #[x] t)).cell? ((⟨W.heap.size, 0, none⟩ : Addr).add j) = some u := by
  intro j u hj
  have e : (⟨W.heap.size, 0, none⟩ : Addr).add j = ⟨W.heap.size, j, none⟩ := by unfold Addr.add; split <;> simp_all
  rw [e, World.cell?_alloc_new, ← hj]
  simp

/-- Where the loop of l2Run stands. -/
def RunRel (vs : Int → Int) (K : List Int) (v : Int) (w0 : World) (B : Nat) (vo vg vv vk vb : Value) (wr : World) : Prop :=
  ∃ (m : Nat) (uv uk : Int) (ub : Bool), m ≤ K.length ∧ vv = .int .i64 uv ∧ vk = .int .i64 uk ∧ vb = .bool ub ∧ FeRow vs wr B vo (K.take m) ∧ NumRow wr B vg ((K.take m).map vs) ∧ Below B w0 wr ∧
    ((ub = true ∧ m = K.length ∧ uv = v) ∨ (ub = false ∧ m < K.length ∧ K[m]? = some uk))
def slLen : Value → Nat
  | .slice _ n _ => n
  | _ => 0
theorem NumRow.len {w : World} {base : Nat} {v : Value} {l : List Int} (h : NumRow w base v l) : slLen v = l.length := by
  obtain ⟨_, ⟨rfl, h0⟩ | ⟨g, cap, cur, rfl, _⟩⟩ := h
  · simpa [slLen] using h0.symm
  · rfl
theorem take_succ_map {K : List Int} {m : Nat} {k : Int} (h : K[m]? = some k) : K.take (m + 1) = K.take m ++ [k] := by
  rw [List.take_add_one, h]; rfl

set_option maxRecDepth 100000 in
set_option maxHeartbeats 4000000 in
theorem run_any (lv : List Int) (hlv : vok lv = true) (t : T) (hf : t.fit = true) (hn : t.nodes ≤ 100) (w : World) (S S' : Nat → Prop) (a a' : Option Addr) (c c' : Nat)
    (hat : AtS w S t.ps a c) (hl : IntsAt w S' lv a' c') :
    Calls Try.prog 79 #[.agg #[.int .i64 t.k, .int .i64 t.n, .slice a t.ps.length c], .slice a' lv.length c'] w (RunPost (vf lv) (t.kys (vf lv)) w (t.val (vf lv))) := by
  have hvs := vf_bd (vok_mem hlv).2
  have hkb := T.kys_bd (vf lv) t hf
  have HV := Lib.hid hvs
  have HKB := Lib.hid hkb
  obtain ⟨K, hK⟩ : ∃ K, K = t.kys (vf lv) := ⟨_, rfl⟩
  obtain ⟨v, hv⟩ : ∃ v, v = t.val (vf lv) := ⟨_, rfl⟩
  have hKl : K.length ≤ 100 := by rw [hK]; omega
  have HNX := Lib.hid (next_any (vf lv) hvs t hf)
  rw [← hK, ← hv] at HNX ⊢
  rw [← hK] at HKB
  have HLV := Lib.hid hlv
  have hlen : lv.length ≤ 10 := (vok_mem hlv).1
  clear hvs hkb hK hv hlv hn hf
  obtain ⟨iF, fi, fz0, fz1, fz2⟩ := info_parts infoFetch
  obtain ⟨iN, ni, nz0, nz1, nz2⟩ := info_parts infoInt
  have HIF := Lib.hid (And.intro fi (And.intro fz0 (And.intro fz1 fz2)))
  have HIN := Lib.hid (And.intro ni (And.intro nz0 (And.intro nz1 nz2)))
  clear fi fz0 fz1 fz2 ni nz0 nz1 nz2
  have hml : maxLen = 9223372036854775807 := rfl
  have HML := Lib.hid hml
  clear hml
  obtain ⟨w0, hw0⟩ : ∃ w0, w0 = w.alloc (.cells #[.int .i64 t.k, .int .i64 t.n, .slice a t.ps.length c] 42) := ⟨_, rfl⟩
  have hs0 : w0.heap.size = w.heap.size + 1 := by rw [hw0]; simp
  have HBX := Lib.hid (show Blk w0 w.heap.size 42 #[.int .i64 t.k, .int .i64 t.n, .slice a t.ps.length c] by rw [hw0]; exact Blk.new w _ _)
  have HA := Lib.hid (show AtS w0 S t.ps a c by rw [hw0]; exact hat.alloc _)
  have HL := Lib.hid (show IntsAt w0 S' lv a' c' by rw [hw0]; exact hl.alloc _)
  have HW := Lib.hid (show Below w.heap.size w w0 by rw [hw0]; exact (Below.refl _ _).alloc (Nat.le_refl _) _)
  have hF0 := (rowF_new (vf lv) w0).alloc (.cells #[] 3)
  have hN0 := rowN_new (w0.alloc (.cells #[] 96))
  have hb0 : Below w0.heap.size w0 ((w0.alloc (.cells #[] 96)).alloc (.cells #[] 3)) := ((Below.refl _ _).alloc (Nat.le_refl _) _).alloc (by simp) _
  simp only [World.size_alloc] at hN0
  rw [hs0] at hF0 hN0
  obtain ⟨W, hW⟩ : ∃ W, W = (w0.alloc (.cells #[] 96)).alloc (.cells #[] 3) := ⟨_, rfl⟩
  rw [← hW] at hF0 hN0 hb0
  have HW0 := Lib.hid hw0
  have HWW := Lib.hid hW
  have HF0 := Lib.hid (show FeRow (vf lv) W (w.heap.size + 1) (.slice (some ⟨w.heap.size + 1, 0, none⟩) 0 0) (K.take 0) from hF0)
  have HN0 := Lib.hid (show NumRow W (w.heap.size + 1) (.slice (some ⟨w.heap.size + 1 + 1, 0, none⟩) 0 0) ((K.take 0).map (vf lv)) from ⟨hN0.1, by
    rcases hN0.2 with h | ⟨g, cap, cur, h1, h2, h3⟩
    · exact .inl h
    · exact .inr ⟨g, cap, cur, h1, by omega, h3⟩⟩)
  have HB0 := Lib.hid (show Below (w.heap.size + 1) w0 W by rw [← hs0]; exact hb0)
  have HIA := Lib.hid (show IntsAt W (fun _ => True) ((K.take 0).map (vf lv)) (some ⟨w.heap.size + 1 + 1, 0, none⟩) 0 from IntsAt.nil (by omega))
  clear hat hl hw0 hW hF0 hN0 hb0
  go_enter Try.func79, Try.ntmps79
  go_wp2_with fail
  rw [← HW0.out, ← HWW.out]
  refine (HNX.out 0 (Nat.zero_le _) W S _ a _ c 0 (HA.out.below (by rw [hs0]; exact HB0.out)) HIA.out).mono ?_
  have hpost : ∀ (e : Ending) (w1 : World), NextPost K 0 W v e w1 → ∃ uv uk ub, e = .returned (.tuple #[.int .i64 uv, .int .i64 uk, .bool ub]) ∧ RunRel (vf lv) K v w0 (w.heap.size + 1) (.slice (some ⟨w.heap.size + 1, 0, none⟩) 0 0) (.slice (some ⟨w.heap.size + 1 + 1, 0, none⟩) 0 0) (.int .i64 uv) (.int .i64 uk) (.bool ub) w1 := by
    rintro e w1 ⟨hb, h⟩
    have hF := World.ownsRow.kept (row := none) HF0.out ⟨hb.os, hb.tape, hb.output, hb.size, fun i hi _ => hb.block i hi⟩ (.inr (by simp [Value.ownBlock]))
    have hN := World.ownsRow.kept (row := none) HN0.out ⟨hb.os, hb.tape, hb.output, hb.size, fun i hi _ => hb.block i hi⟩ (.inr (by simp [Value.ownBlock]))
    have hB := HB0.out.trans (hb.mono (by have := HB0.out.size; omega))
    rcases h with ⟨h1, lk, rfl⟩ | ⟨h1, u, key, hk, rfl⟩
    · exact ⟨v, lk, true, rfl, 0, v, lk, true, Nat.zero_le _, rfl, rfl, rfl, hF, hN, hB, .inl ⟨rfl, h1, rfl⟩⟩
    · exact ⟨u, key, false, rfl, 0, u, key, false, Nat.zero_le _, rfl, rfl, rfl, hF, hN, hB, .inr ⟨rfl, h1, hk⟩⟩
  have HPO := Lib.hid hpost
  clear hpost
  rintro e w1 hp
  obtain ⟨uv, uk, ub, rfl, hrel⟩ := HPO.out e w1 hp
  have HR := Lib.hid hrel
  clear hp hrel HF0 HN0 HB0 HIA HPO
  go_wp2_with fail
  go_loopw [6, 7, 8, 9, 10] (fun vo vg vv vk vb wr => RunRel (vf lv) K v w0 (w.heap.size + 1) vo vg vv vk vb wr ∧ True) (fun _ vg _ _ _ _ => K.length - slLen vg)
  case atStart => exact ⟨HR.out, trivial⟩
  case round =>
    obtain ⟨⟨m, uv, uk, ub, hm, rfl, rfl, rfl, hF, hN, hB, hcase⟩, _⟩ := hrel
    have HF := Lib.hid hF
    have HN := Lib.hid hN
    have HB := Lib.hid hB
    have hgl := got_len (vs := vf lv) hm
    have HGL := Lib.hid hgl
    have hml := hN.len
    rw [hgl] at hml
    have HSL := Lib.hid hml
    clear hF hN hB hgl hml HR
    rcases hcase with ⟨rfl, rfl, rfl⟩ | ⟨rfl, hlt, hkm⟩
    · go_wp2_with fail
      go_ret2
      refine ⟨_, rfl, ?_, HW.out.trans (HB.out.mono (by omega))⟩
      have h := HF.out
      rw [List.take_of_length_le (Nat.le_refl _)] at h
      exact ⟨h.1, by
        rcases h.2 with h | ⟨g, cap, cur, h1, h2, h3⟩
        · exact .inl h
        · exact .inr ⟨g, cap, cur, h1, by omega, h3⟩⟩
    · have hkk := HKB.out.1 uk (List.mem_of_getElem? hkm)
      have HKM := Lib.hid hkm
      clear hkm
      go_wp2_with fail
      refine (of_any _ S' lv a' c' (HL.out.below (by rw [hs0]; exact HB.out)) uk hkk.1 (by omega)).mono ?_
      rintro e w' ⟨rfl, rfl⟩
      obtain ⟨x, hx⟩ : ∃ x, x = vf lv uk := ⟨_, rfl⟩
      rw [← hx]
      have HX := Lib.hid hx
      have hwr := HB.out.size
      clear hx
      go_wp2_with (at_builtin; refine wpList_append_own _ rfl (.tmp 22) (.tmp 28) 92 rfl (w.heap.size + 1) 96 iF (.agg #[.int .i64 0, .int .i64 0]) 2 16 Try.underlying92 HIF.out.1 HIF.out.2.1 HIF.out.2.2.1 HIF.out.2.2.2 rfl (by decide) _ (K.take m).length (fc (vf lv) (K.take m)) rfl (HF.out.alloc _) ⟨wr.heap.size, 0, none⟩ 1 1 [.int .i64 uk, .int .i64 x] rfl rfl ?c1 ?c2 ?c3 ?c4 ?c5 ?_)
      case c1 => exact news2 _ _ _ _
      case c2 => simp [Value.oneCell']
      case c3 => rw [HML.out]; simp; omega
      case c4 => simp; omega
      case c5 => simp; omega
      intro v' w1 hown hgr _
      have hfc : fc (vf lv) [uk] = [.int .i64 uk, .int .i64 x] := by simp [fc, HX.out]
      have hF1 : FeRow (vf lv) w1 (w.heap.size + 1) v' (K.take (m + 1)) := by
        unfold FeRow
        rw [take_succ_map HKM.out, fc_append, hfc, show (K.take m ++ [uk]).length = m + 1 by simp; omega]
        exact hown
      have hN1 : NumRow w1 (w.heap.size + 1) _ ((K.take m).map (vf lv)) := World.ownsRow.kept (HN.out.alloc _) hgr (own_ne HN.out HF.out (by decide))
      have hB1 : Below (w.heap.size + 1) w0 w1 := (HB.out.alloc (by omega) _).trans (below_grown hgr (by simp; omega) (own_ge HF.out))
      have HF1 := Lib.hid hF1
      have HN1 := Lib.hid hN1
      have HB1 := Lib.hid hB1
      have hw1 := hB1.size
      clear hown hgr hfc hF1 hN1 hB1 HF HN HB
      go_wp2_with fail
      refine (of_any _ S' lv a' c' (HL.out.below (by rw [hs0]; exact HB1.out)) uk hkk.1 (by omega)).mono ?_
      rintro e w' ⟨rfl, rfl⟩
      rw [← HX.out]
      go_wp2_with (at_builtin; refine wpList_append_own _ rfl (.tmp 30) (.tmp 34) 30 rfl (w.heap.size + 1) 3 iN (.int .i64 0) 1 8 Try.underlying30 HIN.out.1 HIN.out.2.1 HIN.out.2.2.1 HIN.out.2.2.2 rfl (by decide) _ ((K.take m).map (vf lv)).length (((K.take m).map (vf lv)).map (Value.int .i64)) rfl (HN1.out.alloc _) ⟨w1.heap.size, 0, none⟩ 1 1 [.int .i64 x] rfl rfl ?d1 ?d2 ?d3 ?d4 ?d5 ?_)
      case d1 => exact news1 _ _ _
      case d2 => simp [Value.oneCell']
      case d3 => rw [HML.out]; simp; omega
      case d4 => simp; omega
      case d5 => simp; omega
      intro v2 w2 hown hgr _
      have hN2 : NumRow w2 (w.heap.size + 1) v2 ((K.take (m + 1)).map (vf lv)) := by
        unfold NumRow
        rw [take_succ_map HKM.out, List.map_append, List.map_append, show ((K.take m).map (vf lv) ++ [uk].map (vf lv)).length = m + 1 by simp; omega]
        have e : List.take m (List.map (Value.int IntKind.i64 ∘ vf lv) K) = ((K.take m).map (vf lv)).map (Value.int .i64) := by simp [List.map_take]
        rw [e] at hown
        simp only [List.map_cons, List.map_nil, ← HX.out]
        exact hown
      have hF2 : FeRow (vf lv) w2 (w.heap.size + 1) v' (K.take (m + 1)) := World.ownsRow.kept (HF1.out.alloc _) hgr (own_ne HF1.out HN1.out (by decide))
      have hB2 : Below (w.heap.size + 1) w0 w2 := (HB1.out.alloc (by omega) _).trans (below_grown hgr (by simp; omega) (own_ge HN1.out))
      obtain ⟨a2, c2, hv2, hIA⟩ := hN2.at (by intro y hy; obtain ⟨k, _, rfl⟩ := List.mem_map.1 hy; have := HV.out k; unfold i64ok; omega)
      rw [got_len (by omega : m + 1 ≤ K.length)] at hv2
      subst hv2
      have hbx := (HBX.out.below hB2 (by omega)).three
      obtain ⟨x0, x1, x2, f0, f1, f2⟩ := hbx
      have HF2 := Lib.hid hF2
      have HN2 := Lib.hid hN2
      have HB2 := Lib.hid hB2
      have HI2 := Lib.hid hIA
      have hw2 := hB2.size
      clear hown hgr hF2 hN2 hB2 hIA HF1 HN1 HB1
      go_wp2_with fail
      refine (HNX.out (m + 1) (by omega) w2 S _ a _ c c2 (HA.out.below (by rw [hs0]; exact HB2.out)) HI2.out).mono ?_
      rintro e w3 ⟨hb, h⟩
      have hF3 : FeRow (vf lv) w3 (w.heap.size + 1) v' (K.take (m + 1)) := World.ownsRow.kept (row := none) HF2.out ⟨hb.os, hb.tape, hb.output, hb.size, fun i hi _ => hb.block i hi⟩ (Classical.em _)
      have hN3 : NumRow w3 (w.heap.size + 1) (.slice a2 (m + 1) c2) ((K.take (m + 1)).map (vf lv)) := World.ownsRow.kept (row := none) HN2.out ⟨hb.os, hb.tape, hb.output, hb.size, fun i hi _ => hb.block i hi⟩ (Classical.em _)
      have hB3 : Below (w.heap.size + 1) w0 w3 := HB2.out.trans (hb.mono (by omega))
      have H3 := Lib.hid (And.intro hF3 (And.intro hN3 hB3))
      clear hb hF3 hN3 hB3 HF2 HN2 HB2 HI2 x0 x1 x2 f0 f1 f2
      rcases h with ⟨h1, lk, rfl⟩ | ⟨h1, u, key, hk, rfl⟩
      · have HM1 := Lib.hid h1
        clear h1
        go_wp2_with fail
        refine ⟨⟨⟨m + 1, _, _, _, by omega, rfl, rfl, rfl, H3.out.1, H3.out.2.1, H3.out.2.2, .inl ⟨rfl, HM1.out, rfl⟩⟩, trivial⟩, ?_⟩
        rw [HSL.out]
        simp only [slLen]
        omega
      · have HK := Lib.hid hk
        clear hk
        go_wp2_with fail
        refine ⟨⟨⟨m + 1, _, _, _, by omega, rfl, rfl, rfl, H3.out.1, H3.out.2.1, H3.out.2.2, .inr ⟨rfl, h1, HK.out⟩⟩, trivial⟩, ?_⟩
        rw [HSL.out]
        simp only [slLen]
        omega
end Go.Proofs.Ytklmpagpkeffjaa
