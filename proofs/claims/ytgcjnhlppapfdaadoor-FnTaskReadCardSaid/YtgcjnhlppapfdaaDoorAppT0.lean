/- impl.appendTask -/
import Derived.Test.YtgcjnhlppapfdaaDoorApp
import Derived.Test.YtgcjnhlppapfdaaDoorText
namespace Go.Proofs.YtgcjnhlppapfdaaDoor
open Go.RowKit Go.Lib

section
variable {P : Program} {ops : Array Oper} {o : Oper} {a : Act} {w : World} {K : Act → World → Prop} {Q : Exit → Act → World → Prop} {E : Prop}
/-- append onto a row of the call's own, as one step of a region that draws. -/
theorem step_append_own (hg : o.guard = none) (s x : Operand) (t : TypeId) (hop : o.op = Op.call { callee := Callee.builtin Builtin.append, args := #[s, x], argTypes := #[t, t] })
    (base : Nat) (e : TypeId) (i : TypeInfo) (z : Value) (size bytes : Nat) (ht : P.underlying t = some (.slice e)) (hi : P.info? e = some i) (hz : i.zero = some z)
    (hsize : i.size = size) (hby : i.bytes = bytes) (hzs : z.cells.size = size) (hsz : 0 < size)
    (v : Value) (n : Nat) (xs : List Value) (hs : a.eval s = v) (hown : w.ownsRow base e size v n xs)
    (ad : Addr) (m c : Nat) (news : List Value) (hx : a.eval x = .slice (some ad) m c) (hl : news.length = m * size) (hnews : ∀ j u, news[j]? = some u → w.cell? (ad.add j) = some u) (h1 : ∀ u ∈ news, u.oneCell' = true)
    (h63 : n + m ≤ maxLen) (hbytes : (n + m) * bytes ≤ 140737488355328) (hbase : base ≤ w.heap.size)
    (hK : ∀ v' w', w'.ownsRow base e size v' (n + m) (xs ++ news) → w.grownBy w' v.ownBlock → K (a.put o.dst v') w') :
    if Region.wanted o (yielded ops a.tmps) = true then Oper.wp P o a w K Q else E := by
  have hw : Region.wanted o (yielded ops a.tmps) = true := by simp [Region.wanted, hg]
  rw [if_pos hw]
  obtain ⟨v', w', hrun, h2, h3, _⟩ := run_append_own (P := P) w base t o.type e i z size bytes ht hi hz hsize hby hzs hsz v n xs hown ad m c news hl hnews h1 h63 hbytes hbase
  unfold Oper.wp
  simp [execOp, hop, resolve, invoke, builtin, hs, hx, hrun, Result.andThen]
  exact hK v' w' h2 h3
theorem step_append_own_string (hg : o.guard = none) (sl x : Operand) (t u : TypeId) (hop : o.op = Op.call { callee := Callee.builtin Builtin.append, args := #[sl, x], argTypes := #[t, u] })
    (base : Nat) (e : TypeId) (i : TypeInfo) (ht : P.underlying t = some (.slice e)) (hu : P.underlying u = some .string) (hi : P.info? e = some i) (hz : i.zero = some (.int .u8 0))
    (hsize : i.size = 1) (hby : i.bytes = 1)
    (v : Value) (n : Nat) (xs : List Value) (hs : a.eval sl = v) (hown : w.ownsRow base e 1 v n xs) (s : ByteArray) (hx : a.eval x = .string s)
    (h63 : n + s.size ≤ maxLen) (hbytes : n + s.size ≤ 140737488355328) (hbase : base ≤ w.heap.size)
    (hK : ∀ v' w', w'.ownsRow base e 1 v' (n + s.size) (xs ++ strCells s) → w.grownBy w' v.ownBlock → K (a.put o.dst v') w') :
    if Region.wanted o (yielded ops a.tmps) = true then Oper.wp P o a w K Q else E := by
  have hw : Region.wanted o (yielded ops a.tmps) = true := by simp [Region.wanted, hg]
  rw [if_pos hw]
  obtain ⟨v', w', hr, h2, h3, _⟩ := run_append_own_string (P := P) w base t u o.type e i ht hu hi hz hsize hby v n xs hown s h63 hbytes hbase
  unfold Oper.wp execOp
  simp only [hop, resolve, invoke, builtin, Sem.run_bind, Sem.run_pure, Result.andThen_ok, List.map_toArray, List.map_cons, List.map_nil, hs, hx, hr]
  exact hK v' w' h2 h3
end

section
variable {w w' : World} {base : Nat} {v : Value} {bs : List UInt8}
theorem Byt.block (h : Byt w base v bs) {k : Nat} (hk : v.ownBlock = some k) : base ≤ k ∧ ∃ cs, Blk w k 5 cs := by
  rcases h.2 with ⟨rfl, _⟩ | ⟨g, cap, cur, rfl, hg, hh, _⟩
  · simp [Value.ownBlock] at hk
  · obtain rfl : g = k := by simpa [Value.ownBlock] using hk
    exact ⟨hg, cur, hh⟩
theorem Byt.step (h : Byt w base v bs) (hb : Below w.heap.size w w') : Byt w' base v bs := by
  obtain ⟨h1, h2⟩ := h
  refine ⟨h1, ?_⟩
  rcases h2 with h2 | ⟨g, cap, cur, hv, hg, hh, r⟩
  · exact .inl h2
  · exact .inr ⟨g, cap, cur, hv, hg, (hb.block g (Blk.lt (t := 5) hh)).trans hh, r⟩
theorem Byt.alloc (h : Byt w base v bs) (o : Obj) : Byt (w.alloc o) base v bs := h.step ((Below.refl _ _).alloc (Nat.le_refl _) o)
theorem Byt.drew (h : Byt w base v bs) : Byt w.drew base v bs := h.step (Below.refl _ _).drew
theorem Byt.drewN (h : Byt w base v bs) (n : Nat) : Byt (w.drewN n) base v bs := h.step ⟨rfl, rfl, rfl, Nat.le_refl _, fun _ _ => rfl⟩

/-- All blocks of tasks are kept. -/
def KeepT (w w' : World) : Prop := ∀ g cs, Blk w g 25 cs → Blk w' g 25 cs
theorem KeepT.refl (w : World) : KeepT w w := fun _ _ h => h
theorem KeepT.trans {a b c : World} (h : KeepT a b) (k : KeepT b c) : KeepT a c := fun g cs x => k g cs (h g cs x)
theorem KeepT.of_below (h : Below w.heap.size w w') : KeepT w w' := fun _ _ x => x.below h x.lt

/-- What an append onto the bytes leaves. -/
theorem Byt.grown (h : Byt w base v bs) (hg : w.grownBy w' v.ownBlock) (hb : base ≤ w.heap.size) : Below base w w' ∧ KeepT w w' := by
  refine ⟨Below.grown (Below.refl base w) hg hb (fun k hk => (h.block hk).1), fun g cs x => ?_⟩
  refine (hg.block g x.lt (fun e => ?_)).trans x
  obtain ⟨_, cs', hx⟩ := h.block e.symm
  unfold Blk at hx x
  rw [hx] at x
  injection x with x
  injection x with _ ht
  exact absurd ht (by decide)
theorem Byt.app {w1 : World} {v1 : Value} {l : List UInt8} (h : w1.ownsRow base 5 1 v1 (bs.length + l.length) (bc bs ++ bc l)) : Byt w1 base v1 (bs ++ l) := by
  unfold Byt
  rw [List.length_append, bc_append]
  exact h
theorem byte_new {g : Nat} {x : Int} (h : Blk w g 5 #[.int .u8 x]) : ∀ (j : Nat) (u : Value), [Value.int .u8 x][j]? = some u → w.cell? ((⟨g, 0, none⟩ : Addr).add j) = some u := by
  intro j u hj
  rw [add0, h.cell j, ← hj]
  simp
end

theorem blk_new1 (w : World) (o : Obj) (t : TypeId) (cs : Array Value) : Blk ((w.alloc o).alloc (.cells cs t)) (w.heap.size + 1) t cs := by
  have := Blk.new (w.alloc o) t cs
  simpa using this

/-- What appendTask leaves. -/
def TPost (base : Nat) (bs : List UInt8) (w : World) (e : Ending) (w' : World) : Prop := ∃ v', e = .returned v' ∧ Byt w' base v' bs ∧ Below base w w' ∧ KeepT w w'

def AppT (t : T) : Prop := ∀ (w : World) (S : Nat → Prop) (a : Option Addr) (c base : Nat) (v : Value) (bs : List UInt8), AtS w S t.ps a c → (∀ b, S b → b < base) → t.fit = true → t.nodes ≤ 1000 → Byt w base v bs → bs.length + 7 * t.nodes ≤ 900000 → base ≤ w.heap.size →
  Calls Tryd.prog 15 #[v, .agg #[.int .i64 t.k, .int .i64 t.n, .slice a t.ps.length c]] w (TPost base (bs ++ t.text) w)

theorem AtS.base {w w' : World} {S : Nat → Prop} {ps : List T} {a : Option Addr} {c base : Nat} (h : AtS w S ps a c) (hS : ∀ b, S b → b < base) (hb : Below base w w') : AtS w' S ps a c :=
  h.keep (fun _ h => h) (fun b hbS _ => hb.block b (hS b hbS))

set_option maxHeartbeats 4000000 in
theorem appT_0 (t : T) (hF : ∀ u ∈ t.ps, AppT u) (hk : t.k = 0) : AppT t := by
  intro w S a c base v bs hat hS hfit hnodes hv hbl hbase
  obtain ⟨hk0, hk5, hn0, hn1⟩ := fit_n hfit
  obtain ⟨i0, hi, hz0, hz1, hz2⟩ := info_parts infoByte
  have HI := Lib.hid (And.intro hi (And.intro hz0 (And.intro hz1 hz2)))
  have HF := Lib.hid hF
  have HFIT := Lib.hid hfit
  have hlen : t.ps.length ≤ 9223372036854775807 := by have := hat.1; have := hat.2.1; omega
  have HA := Lib.hid hat
  have HV := Lib.hid hv
  have HSB := Lib.hid hS
  have hml : maxLen = 9223372036854775807 := rfl
  have HML := Lib.hid hml
  clear hat hF hfit hv hS hi hz0 hz1 hz2 hml
  obtain ⟨n, hn⟩ : ∃ n : Nat, t.n = n := ⟨t.n.toNat, by omega⟩
  have hn96 : n ≤ 96 := by omega
  have htx : t.text = if t.k = 0 then dec n else if t.k = 1 then 107 :: dec n else headB t.k n ++ textL t.ps ++ [41] := by
    cases t; simp only [T.text, T.k, T.n, T.ps] at hn ⊢; rw [hn]; rfl
  rw [hn]
  have hpos := t.nodes_pos
  have HN := Lib.hid hn
  have HT := Lib.hid htx
  clear htx hn hn0 hn1
  have HTX := Lib.hid (show t.text = dec n by rw [HT.out]; simp [hk])
  rw [hk]
  clear hk hk0 hk5
  go_enter Tryd.func15, Tryd.ntmps15
  go_wp2_with fail
  refine (app_any n (by omega) _ base v bs (HV.out.alloc _) (by omega) (by simp; omega)).mono ?_
  rintro e w1 ⟨v', rfl, hown, hgr⟩
  have hbb := (HV.out.alloc _).grown hgr (by simp; omega)
  have HO := Lib.hid (And.intro hown (And.intro (((Below.refl base w).alloc hbase _).trans hbb.1) ((KeepT.of_below ((Below.refl w.heap.size w).alloc (Nat.le_refl _) _)).trans hbb.2)))
  clear hown hgr hbb
  go_wp2_with fail
  go_ret
  exact ⟨v', rfl, by rw [HTX.out]; exact HO.out.1, HO.out.2.1, HO.out.2.2⟩
set_option maxHeartbeats 4000000 in
theorem appT_1 (t : T) (hF : ∀ u ∈ t.ps, AppT u) (hk : t.k = 1) : AppT t := by
  intro w S a c base v bs hat hS hfit hnodes hv hbl hbase
  obtain ⟨hk0, hk5, hn0, hn1⟩ := fit_n hfit
  obtain ⟨i0, hi, hz0, hz1, hz2⟩ := info_parts infoByte
  have HI := Lib.hid (And.intro hi (And.intro hz0 (And.intro hz1 hz2)))
  have HF := Lib.hid hF
  have HFIT := Lib.hid hfit
  have hlen : t.ps.length ≤ 9223372036854775807 := by have := hat.1; have := hat.2.1; omega
  have HA := Lib.hid hat
  have HV := Lib.hid hv
  have HSB := Lib.hid hS
  have hml : maxLen = 9223372036854775807 := rfl
  have HML := Lib.hid hml
  clear hat hF hfit hv hS hi hz0 hz1 hz2 hml
  obtain ⟨n, hn⟩ : ∃ n : Nat, t.n = n := ⟨t.n.toNat, by omega⟩
  have hn96 : n ≤ 96 := by omega
  have htx : t.text = if t.k = 0 then dec n else if t.k = 1 then 107 :: dec n else headB t.k n ++ textL t.ps ++ [41] := by
    cases t; simp only [T.text, T.k, T.n, T.ps] at hn ⊢; rw [hn]; rfl
  rw [hn]
  have hpos := t.nodes_pos
  have HN := Lib.hid hn
  have HT := Lib.hid htx
  clear htx hn hn0 hn1
  have HTX := Lib.hid (show t.text = 107 :: dec n by rw [HT.out]; simp [hk])
  rw [hk]
  clear hk hk0 hk5
  go_enter Tryd.func15, Tryd.ntmps15
  go_wp2_with fail
  go_region_law (first
    | (refine step_append_own rfl (.tmp 17) (.tmp 18) 22 rfl base 5 i0 (.int .u8 0) 1 1 Tryd.underlying22 HI.out.1 HI.out.2.1 HI.out.2.2.1 HI.out.2.2.2 rfl (by decide) v bs.length (bc bs) rfl (by repeat (first | exact HV.out | refine Byt.drew ?_ | refine Byt.alloc ?_ _)) ⟨w.heap.size + 1, 0, none⟩ 1 1 [.int .u8 107] rfl rfl (byte_new (blk_new1 _ _ _ _).drew) (by simp [Value.oneCell']) (by rw [HML.out]; omega) (by omega) (by simp; omega) ?_
       intro v1 w1 hown1 hgr1
       have hx1 := Byt.app (l := [107]) hown1
       have hg1 := (show Byt _ base v bs by repeat (first | exact HV.out | refine Byt.drew ?_ | refine Byt.alloc ?_ _)).grown hgr1 (by simp; omega)
       obtain ⟨z0, z1, z2, _, _, _⟩ := (hg1.2 w.heap.size #[.int .i64 1, .int .i64 n, .slice a t.ps.length c] (by repeat (first | exact Blk.new _ _ _ | refine Blk.drew ?_ | refine Blk.alloc ?_ _))).three
       clear hown1 hgr1)
    | (go_simp; go_at_call 26; refine (app_any n (by omega) _ base v1 (bs ++ [107]) hx1 (by simp; omega) ?_).mono ?_; exact Nat.le_trans (by simp; omega) hg1.1.size; rintro e w2 ⟨v2, rfl, hown2, hgr2⟩; have hg2 := hx1.grown hgr2 (Nat.le_trans (by simp; omega) hg1.1.size)))
  all_goals
    have HO := Lib.hid (And.intro hown2 (And.intro (((((Below.refl base w).alloc hbase _).alloc (by simp; omega) _).drew.trans hg1.1).trans hg2.1) ((KeepT.of_below ((((Below.refl w.heap.size w).alloc (Nat.le_refl _) _).alloc (by simp) _).drew)).trans (hg1.2.trans hg2.2))))
    clear z0 z1 z2 hown2 hgr2 hg1 hg2 hx1
    go_wp2_with fail
    go_ret
    exact ⟨v2, rfl, by rw [HTX.out]; have := HO.out.1; simpa using this, HO.out.2.1, HO.out.2.2⟩
end Go.Proofs.YtgcjnhlppapfdaaDoor
