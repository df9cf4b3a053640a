/- spec.l2Next, spec.l2Run -/
import Derived.Test.YtohogojphnlhpaaDo
import Derived.Test.YtohogojphnlhpaaLim
import Derived.Laws.AppendOwn
import Derived.OwnWalk
namespace Go.Proofs.Ytohogojphnlhpaa
open Go.RowKit

theorem infoInt : (Try.prog.info? 3).map (fun i => (i.zero, i.size, i.bytes)) = some (some (.int .i64 0), 1, 8) := by kernel_rfl
/-- v holds the numbers l, in memory of the call's own. -/
def NumRow (w : World) (base : Nat) (v : Value) (l : List Int) : Prop := w.ownsRow base 3 1 v l.length (l.map (Value.int .i64))
/-- The cells of what was fetched of keys. -/
def fc (vs : Int → Int) : List Int → List Value
  | [] => []
  | k :: r => .int .i64 k :: .int .i64 (vs k) :: fc vs r
theorem fc_append (vs : Int → Int) : ∀ a b : List Int, fc vs (a ++ b) = fc vs a ++ fc vs b
  | [], b => rfl
  | k :: r, b => by simp [fc, fc_append vs r b]
theorem fc_length (vs : Int → Int) : ∀ l : List Int, (fc vs l).length = l.length * 2
  | [] => rfl
  | k :: r => by simp [fc, fc_length vs r]; omega
theorem own_ne {w : World} {b1 b2 : Nat} {e1 e2 : TypeId} {s1 s2 : Nat} {v1 v2 : Value} {n1 n2 : Nat} {l1 l2 : List Value} (h1 : w.ownsRow b1 e1 s1 v1 n1 l1) (h2 : w.ownsRow b2 e2 s2 v2 n2 l2) (he : e1 ≠ e2) : v1.ownBlock = none ∨ v1.ownBlock ≠ v2.ownBlock := by
  obtain ⟨_, ⟨rfl, _⟩ | ⟨g1, c1, cur1, rfl, _, hh1, _⟩⟩ := h1
  · exact .inl rfl
  obtain ⟨_, ⟨rfl, _⟩ | ⟨g2, c2, cur2, rfl, _, hh2, _⟩⟩ := h2
  · exact .inr (by simp [Value.ownBlock])
  · refine .inr ?_
    simp only [Value.ownBlock, ne_eq, Option.some.injEq]
    rintro rfl
    rw [hh1] at hh2
    simp at hh2
    exact he hh2.2

theorem own_ge {w : World} {b : Nat} {e : TypeId} {s : Nat} {v : Value} {n : Nat} {l : List Value} (h : w.ownsRow b e s v n l) : ∀ k, v.ownBlock = some k → b ≤ k := fun k hk => (h.lt k hk).1

theorem below_grown {B : Nat} {w w' : World} {row : Option Nat} (h : w.grownBy w' row) (hB : B ≤ w.heap.size) (hr : ∀ k, row = some k → B ≤ k) : Below B w w' :=
  ⟨h.os, h.tape, h.output, h.size, fun i hi => h.block i (by omega) (by intro e; have := hr i e.symm; omega)⟩

theorem NumRow.at {w : World} {base : Nat} {v : Value} {l : List Int} (h : NumRow w base v l) (hl : ∀ x ∈ l, i64ok x) : ∃ a c, v = .slice a l.length c ∧ IntsAt w (fun b => base ≤ b) l a c := by
  have h' := h
  obtain ⟨_, ⟨rfl, h0⟩ | ⟨g, cap, cur, rfl, hb, hh, hn, hc, hz, _⟩⟩ := h
  · obtain rfl : l = [] := List.length_eq_zero_iff.1 h0
    exact ⟨none, 0, rfl, IntsAt.nil (by omega)⟩
  · refine ⟨_, _, rfl, hn, hc, hl, .inr ⟨g, 0, rfl, hb, fun i hi => ?_⟩⟩
    have := h'.cells (g := g) rfl i (.int .i64 l[i]) (by rw [List.getElem?_map, List.getElem?_eq_getElem hi]; rfl)
    have e : (⟨g, 0, none⟩ : Addr).add i = ⟨g, 0 + i, none⟩ := by unfold Addr.add; split <;> simp_all
    rw [e] at this
    exact this

/-- What l2Next leaves. -/
def NextPost (K : List Int) (m : Nat) (w : World) (v : Int) (e : Ending) (w' : World) : Prop :=
  Below w.heap.size w w' ∧ ((m = K.length ∧ ∃ lk, e = .returned (.tuple #[.int .i64 v, .int .i64 lk, .bool true])) ∨ (m < K.length ∧ ∃ u key, K[m]? = some key ∧ e = .returned (.tuple #[.int .i64 u, .int .i64 key, .bool false])))

set_option maxHeartbeats 1000000 in
theorem next_any (vs : Int → Int) (hvs : ∀ k, 0 ≤ vs k ∧ vs k ≤ 96) (t : T) (hf : t.fit = true) (m : Nat) (hm : m ≤ (t.kys vs).length) (w : World) (S S' : Nat → Prop) (a a' : Option Addr) (c c' : Nat)
    (hat : AtS w S t.ps a c) (hgot : IntsAt w S' (((t.kys vs).take m).map vs) a' c') :
    Calls Try.prog 91 #[.agg #[.int .i64 t.k, .int .i64 t.n, .slice a t.ps.length c], .slice a' m c'] w (NextPost (t.kys vs) m w (t.val vs)) := by
  have hl := got_len (vs := vs) hm
  have hta := hat.lim
  have HS := Lib.hid ((hta.alloc (.cells #[.int .i64 t.k, .int .i64 t.n, .slice a t.ps.length c] 39)).alloc (.cells #[.slice a' m c', .int .i64 0, .int .i64 0] 127))
  have hB := Blk.new (w.alloc (.cells #[.int .i64 t.k, .int .i64 t.n, .slice a t.ps.length c] 39)) 127 #[.slice a' m c', .int .i64 0, .int .i64 0]
  rw [World.size_alloc] at hB
  have hgl := (hgot.lim.alloc (.cells #[.int .i64 t.k, .int .i64 t.n, .slice a t.ps.length c] 39)).alloc (.cells #[.slice a' m c', .int .i64 0, .int .i64 0] 127)
  have HT := Lib.hid (show TpAt _ (w.heap.size + 1) (((t.kys vs).take m).map vs) 0 0 from ⟨a', c', by rw [hl]; exact hB, hgl.weaken (fun b hb => by omega)⟩)
  have HB0 := Lib.hid (((Below.refl w.heap.size w).alloc (Nat.le_refl _) (.cells #[.int .i64 t.k, .int .i64 t.n, .slice a t.ps.length c] 39)).alloc (by simp) (.cells #[.slice a' m c', .int .i64 0, .int .i64 0] 127))
  have HL := Lib.hid hl
  clear hat hgot hta hB hgl hl
  go_enter Try.func91, Try.ntmps91
  go_wp2_with fail
  refine (do_all vs hvs (t.kys vs) m hm t hf _ _ a c (w.heap.size + 1) 0 0 HS.out (fun b hb => by omega) HT.out (Nat.zero_le _) (List.prefix_rfl)).mono ?_
  rintro e w1 ⟨ho, ⟨h1, rfl, lk1, h2⟩ | ⟨h1, ⟨u, rfl⟩, key, h2, h3⟩⟩
  · have hb : Below w.heap.size w w1 := HB0.out.trans ⟨ho.os, ho.tape, ho.output, ho.size, fun k hk => ho.block k (by simp; omega) (by intro e; injection e; omega)⟩
    have HB1 := Lib.hid hb
    obtain ⟨a2, c2, hbk, _⟩ := h2
    obtain ⟨x0, x1, x2, f0, f1, f2⟩ := hbk.three
    obtain ⟨v, hv⟩ : ∃ v, v = t.val vs := ⟨_, rfl⟩
    rw [← hv]
    have HV := Lib.hid hv
    clear ho hb hbk hv
    go_wp2_with fail
    go_quiet (fail)
    go_wp2_with fail
    go_ret3
    refine ⟨below_drewN HB1.out _, .inl ⟨by omega, lk1, ?_⟩⟩
    rw [← HV.out]
    rfl
  · have hb : Below w.heap.size w w1 := HB0.out.trans ⟨ho.os, ho.tape, ho.output, ho.size, fun k hk => ho.block k (by simp; omega) (by intro e; injection e; omega)⟩
    have HB1 := Lib.hid hb
    have HK := Lib.hid h2
    obtain ⟨a2, c2, hbk, _⟩ := h3
    obtain ⟨x0, x1, x2, f0, f1, f2⟩ := hbk.three
    clear ho hb hbk h2
    go_wp2_with fail
    go_quiet (fail)
    go_wp2_with fail
    go_ret3
    exact ⟨below_drewN HB1.out _, .inr ⟨by omega, u, key, HK.out, rfl⟩⟩

theorem rowN_new (w : World) : NumRow (w.alloc (.cells #[] 3)) w.heap.size (.slice (some ⟨w.heap.size, 0, none⟩) 0 0) [] :=
  ⟨by simp, .inr ⟨w.heap.size, 0, #[], rfl, Nat.le_refl _, heap_alloc_new w _, Nat.le_refl _, by decide, by simp, by simp⟩⟩

theorem news2 (W : World) (t : TypeId) (x y : Value) : ∀ j u, [x, y][j]? = some u → (W.alloc (.cells #[x, y] t)).cell? ((⟨W.heap.size, 0, none⟩ : Addr).add j) = some u := by
  intro j u hj
  have e : (⟨W.heap.size, 0, none⟩ : Addr).add j = ⟨W.heap.size, j, none⟩ := by unfold Addr.add; split <;> simp_all
  rw [e, World.cell?_alloc_new, ← hj]
  simp
theorem news1 (W : World) (t : TypeId) (x : Value) : ∀ j u, [x][j]? = some u → (W.alloc (.cells #[x] t)).cell? ((⟨W.heap.size, 0, none⟩ : Addr).add j) = some u := by
  intro j u hj
  have e : (⟨W.heap.size, 0, none⟩ : Addr).add j = ⟨W.heap.size, j, none⟩ := by unfold Addr.add; split <;> simp_all
  rw [e, World.cell?_alloc_new, ← hj]
  simp

def slLen : Value → Nat
  | .slice _ n _ => n
  | _ => 0
theorem NumRow.len {w : World} {base : Nat} {v : Value} {l : List Int} (h : NumRow w base v l) : slLen v = l.length := by
  obtain ⟨_, ⟨rfl, h0⟩ | ⟨g, cap, cur, rfl, _⟩⟩ := h
  · simpa [slLen] using h0.symm
  · rfl
theorem take_succ_map {K : List Int} {m : Nat} {k : Int} (h : K[m]? = some k) : K.take (m + 1) = K.take m ++ [k] := by
  rw [List.take_add_one, h]; rfl

end Go.Proofs.Ytohogojphnlhpaa
