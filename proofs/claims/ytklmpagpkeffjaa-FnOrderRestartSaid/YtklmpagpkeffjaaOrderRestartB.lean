/- For every code the law FnOrderRestart answers true: OrderRestart answers as its model, no key is tried more often than its task fetches keys and once more, and the keys are those that suspending builds. No condition. -/
/- several texts in one (made by bundle.py): UsesI, MapB, OrdP, SafeA, OrdE, TryS, RsA, Bnds, FitP, FitS, RsS, SafeI, OrdI, RstP, Fixed, BrInts, LawDFix, LawDMay, LawDRst, OrderRestart -/
import Derived.Test.YtklmpagpkeffjaaOrderRestartB0
import Derived.Maps.OwnOps
import Derived.Maps.OwnSet
import Derived.Test.YtklmpagpkeffjaaReck
import Derived.WalkSpells
import Derived.Test.YtklmpagpkeffjaaSafeS
import Derived.Test.YtklmpagpkeffjaaKeyM
import Derived.Test.YtklmpagpkeffjaaMarkI
import Derived.Test.YtklmpagpkeffjaaAllS
import Derived.Deep.RegionWith
import Derived.BigQuiet
import Derived.Test.YtklmpagpkeffjaaOkI
import Derived.Test.YtklmpagpkeffjaaVals
import Derived.Test.YtklmpagpkeffjaaL2
import Derived.Test.YtklmpagpkeffjaaMayU
import Derived.StillTailTactics
import Derived.Test.YtklmpagpkeffjaaRows
import Derived.ProofKit
/- slices.Contains at numbers; impl.TaskUses -/
namespace Go.Proofs.Ytklmpagpkeffjaa
open Go.RowKit

def IndexPost (l : List Int) (n : Int) (w : World) (e : Ending) (w' : World) : Prop := ∃ r : Int, e = .returned (.int .i64 r) ∧ decide (0 ≤ r) = decide (n ∈ l) ∧ w = w'

theorem index_any (w : World) (S : Nat → Prop) (l : List Int) (a : Option Addr) (c : Nat) (n : Int) (h : IntsAt w S l a c) :
    Calls Try.prog 113 #[.slice a l.length c, .int .i64 n] w (IndexPost l n w) := by
  have hlen : l.length ≤ 9223372036854775807 := by have := h.1; have := h.2.1; omega
  have H := Lib.hid h
  clear h
  go_enter Try.func113, Try.ntmps113
  go_wp2_with fail
  go_loop [8] (fun i => ∃ k : Nat, k ≤ l.length ∧ i = .int .i64 k ∧ ¬ n ∈ l.take k) (fun i => l.length - (intOf i).toNat)
  case atStart => exact ⟨0, by omega, rfl, by simp⟩
  case round =>
    obtain ⟨k, hk, rfl, hq⟩ := hrel
    have HQ := Lib.hid hq
    clear hq
    by_cases hlt : k < l.length
    · obtain ⟨b, o, rfl, hbl, _, hc⟩ := H.out.get (Below.refl _ _) hlt
      have HM := Lib.hid (mem_take_succ hlt n)
      have HE := Lib.hid (List.getElem_mem hlt)
      obtain ⟨v, hv⟩ : ∃ v, v = l[k] := ⟨_, rfl⟩
      rw [← hv] at hc
      have HVV := Lib.hid hv
      clear hv
      by_cases hvn : n = v
      · have hd : (n == v) = true := by simpa using hvn
        have hrt : n ∈ l := by rw [hvn, HVV.out]; exact HE.out
        have HRT := Lib.hid hrt
        clear hrt hvn
        go_wp2_with fail
        go_ret
        exact ⟨k, rfl, by rw [decide_eq_true HRT.out, decide_eq_true (by omega)], rfl⟩
      · have hd : (n == v) = false := by simpa using hvn
        have HVN := Lib.hid hvn
        clear hvn
        go_wp2_with fail
        go_round
        case rel => exact ⟨k + 1, by omega, by go_num, fun h => by
          rcases HM.out.1 h with h | h
          · exact HQ.out h
          · exact HVN.out (by rw [HVV.out, h])⟩
        case measure => simp [intOf]; omega
    · have hrf : ¬ n ∈ l := by
        have := HQ.out
        rwa [List.take_of_length_le (by omega)] at this
      have HRF := Lib.hid hrf
      clear hrf
      go_wp2_with fail
      go_ret
      exact ⟨-1, rfl, by rw [decide_eq_false HRF.out]; rfl, rfl⟩

theorem contains_any (w : World) (S : Nat → Prop) (l : List Int) (a : Option Addr) (c : Nat) (n : Int) (h : IntsAt w S l a c) :
    Calls Try.prog 77 #[.slice a l.length c, .int .i64 n] w fun e w' => e = .returned (.bool (decide (n ∈ l))) ∧ w = w' := by
  have H := Lib.hid h
  obtain ⟨r, hr⟩ : ∃ r, r = decide (n ∈ l) := ⟨_, rfl⟩
  have HR := Lib.hid hr
  rw [← hr]
  clear h hr
  go_enter Try.func77, Try.ntmps77
  go_wp2_with fail
  refine (index_any w S l a c n H.out).mono ?_
  rintro e w' ⟨q, rfl, hq, rfl⟩
  have HQ := Lib.hid hq
  clear hq
  go_wp2_with fail
  go_ret
  exact ⟨ret_bool (by rw [HR.out, ← HQ.out]), rfl⟩

set_option maxHeartbeats 2000000 in
theorem implUses_any (t : T) (lv : List Int) (w : World) (S S' : Nat → Prop) (a a' : Option Addr) (c c' : Nat) (hat : AtS w S t.ps a c) (hl : IntsAt w S' lv a' c') :
    Calls Try.prog 29 #[.agg #[.int .i64 t.k, .int .i64 t.n, .slice a t.ps.length c], .slice a' lv.length c'] w (UsPost t lv w) := by
  have K0 := Lib.hid (Kp.start (ty := 42) hat.lim)
  have L0 := Lib.hid (hl.alloc (.cells #[.int .i64 t.k, .int .i64 t.n, .slice a t.ps.length c] 42))
  clear hat hl
  cases hv : (t.ok && vok lv)
  · have HV := Lib.hid hv
    have hx : UsPost t lv w = fun e w' => Below w.heap.size w w' ∧ ∃ v, e = .returned (.tuple #[v, .bool false]) ∧ NumRow w' w.heap.size v [] := by unfold UsPost; rw [hv, if_neg (by decide)]
    have HX := Lib.hid hx
    clear hv hx
    go_enter Try.func29, Try.ntmps29
    go_wp2_with fail
    refine (implFetches_any t lv _ _ _ a a' c c' K0.out.2 L0.out).mono ?_
    rintro e w1 ⟨hb, hm⟩
    rw [HV.out, if_neg (by decide)] at hm
    obtain ⟨vo, rfl, _⟩ := hm
    have K1 := Lib.hid (K0.out.step hb)
    clear hb K0
    go_wp2_with fail
    go_ret2
    rw [HX.out]
    exact ⟨K1.out.done, _, rfl, World.ownsRow_nil _ _ _ _⟩
  · have HV := Lib.hid hv
    have hx : UsPost t lv w = fun e w' => Below w.heap.size w w' ∧ ∃ v, e = .returned (.tuple #[v, .bool true]) ∧ NumRow w' w.heap.size v (usesL (t.kys (vf lv))) := by unfold UsPost; rw [hv, if_pos rfl]
    have HX := Lib.hid hx
    have hkb := kys_ok hv
    obtain ⟨ks, hks⟩ : ∃ ks, ks = t.kys (vf lv) := ⟨_, rfl⟩
    rw [← hks] at hkb HX
    have HKS := Lib.hid hks
    have hkl := hkb.2
    have HKB := Lib.hid hkb.1
    obtain ⟨iN, ni, nz0, nz1, nz2⟩ := info_parts infoInt
    have HIN := Lib.hid (And.intro ni (And.intro nz0 (And.intro nz1 nz2)))
    have hml : maxLen = 9223372036854775807 := rfl
    have HML := Lib.hid hml
    clear hv hx hkb hks ni nz0 nz1 nz2 hml
    go_enter Try.func29, Try.ntmps29
    go_wp2_with fail
    refine (implFetches_any t lv _ _ _ a a' c c' K0.out.2 L0.out).mono ?_
    rintro e w1 ⟨hb, hm⟩
    rw [HV.out, if_pos rfl, ← HKS.out] at hm
    obtain ⟨vo, rfl, hrow⟩ := hm
    obtain ⟨a3, c3, rfl, hfe⟩ := hrow.at
    have K1 := Lib.hid (K0.out.step hb).done
    have HF := Lib.hid hfe
    have hs1 := K1.out.size
    clear hb K0 L0 hrow hfe
    go_wp2_with fail
    go_loopw [8, 21] (fun v i wr => ∃ k : Nat, k ≤ ks.length ∧ i = .int .i64 k ∧ NumRow wr w.heap.size v (usesL (ks.take k)) ∧ Below w1.heap.size w1 wr ∧ (∀ b, v.ownBlock = some b → w1.heap.size ≤ b)) (fun _ i _ => ks.length - (intOf i).toNat)
    case atStart => exact ⟨0, by omega, rfl, World.ownsRow_nil _ _ _ _, Below.refl _ _, by simp [Value.ownBlock]⟩
    case round =>
      obtain ⟨k, hk, rfl, hn, hb, hge⟩ := hrel
      have HB := Lib.hid hb
      have HN := Lib.hid hn
      have HGE := Lib.hid hge
      have hwr := hb.size
      clear hb hge
      by_cases hlt : k < ks.length
      · obtain ⟨b, o, rfl, hbl, _, e0, e1⟩ := HF.out.get HB.out hlt
        obtain ⟨acc, hacc⟩ : ∃ acc, acc = usesL (ks.take k) := ⟨_, rfl⟩
        have hal : acc.length ≤ 100 := by rw [hacc]; have := usesL_len (ks.take k); simp at this; omega
        obtain ⟨a1, c1, hv1, hia⟩ := hn.at (fun x hx => by
          have := HKB.out x (List.mem_of_mem_take (usesL_mem.1 hx))
          unfold i64ok; omega)
        rw [← hacc] at hv1 hia HN
        subst hv1
        have HSN := Lib.hid (show usesL (ks.take (k + 1)) = ustep acc ks[k] by rw [usesL_snoc hlt, hacc])
        obtain ⟨key, hkey⟩ : ∃ key, key = ks[k] := ⟨_, rfl⟩
        obtain ⟨u, hu⟩ : ∃ u, u = vf lv ks[k] := ⟨_, rfl⟩
        rw [← hkey] at e0 HSN
        rw [← hu] at e1
        have HIA := Lib.hid (hia.alloc (.cells #[.int .i64 key, .int .i64 u] 96))
        have HN1 := Lib.hid (World.ownsRow.alloc HN.out (.cells #[.int .i64 key, .int .i64 u] 96))
        have HB1 := Lib.hid (HB.out.alloc hwr (.cells #[.int .i64 key, .int .i64 u] 96))
        clear hacc hn hia hkey hu
        by_cases hin : key ∈ acc
        · have hu : usesL (ks.take (k + 1)) = acc := by rw [HSN.out]; unfold ustep; rw [if_pos hin]
          have HU := Lib.hid hu
          have hd : decide (key ∈ acc) = true := decide_eq_true hin
          have HD := Lib.hid hd
          clear hu hd hin
          go_wp2_with fail
          refine (contains_any _ _ acc a1 c1 key HIA.out).mono ?_
          rintro e w' ⟨rfl, rfl⟩
          rw [HD.out]
          go_wp2_with fail
          go_roundw
          case rel => exact ⟨k + 1, by omega, by go_num, by rw [HU.out]; exact HN1.out, HB1.out, HGE.out⟩
          case measure => simp [intOf]; omega
        · have hu : usesL (ks.take (k + 1)) = acc ++ [key] := by rw [HSN.out]; unfold ustep; rw [if_neg hin]
          have HU := Lib.hid hu
          have hd : decide (key ∈ acc) = false := decide_eq_false hin
          have HD := Lib.hid hd
          clear hu hd hin
          go_wp2_with fail
          refine (contains_any _ _ acc a1 c1 key HIA.out).mono ?_
          rintro e w' ⟨rfl, rfl⟩
          rw [HD.out]
          have hz : (wr.alloc (.cells #[.int .i64 key, .int .i64 u] 96)).heap.size = wr.heap.size + 1 := by simp
          have HZ := Lib.hid hz
          clear hz
          go_wp2_with (at_builtin; refine wpList_append_row _ rfl (.tmp 30) (.tmp 33) 30 rfl w.heap.size 3 iN (.int .i64 0) 1 8 Try.underlying30 HIN.out.1 HIN.out.2.1 HIN.out.2.2.1 HIN.out.2.2.2 rfl (by decide) _ acc.length (acc.map (Value.int .i64)) rfl (World.ownsRow.alloc HN1.out _) ⟨wr.heap.size + 1, 0, none⟩ 1 1 [.int .i64 key] rfl rfl ?d1 ?d2 (by decide) ?d3 ?d4 ?d5 ?_)
          case d1 => have h := news1 (wr.alloc (.cells #[.int .i64 key, .int .i64 u] 96)) 3 (.int .i64 key); rw [World.size_alloc] at h; exact h
          case d2 => simp [Value.oneCell']
          case d3 => rw [HML.out]; omega
          case d4 => omega
          case d5 => simp; omega
          intro v2 w2 hown hgr hnew
          have hN2 : NumRow w2 w.heap.size v2 (acc ++ [key]) := by
            unfold NumRow
            rw [List.map_append, show (acc ++ [key]).length = acc.length + 1 by simp]
            exact hown
          have hB2 : Below w1.heap.size w1 w2 := (HB1.out.alloc (by simp; omega) _).trans (below_grown hgr (by simp; omega) HGE.out)
          have hG2 : ∀ b, v2.ownBlock = some b → w1.heap.size ≤ b := fun b hb => by
            rcases hnew b hb with h | h
            · exact HGE.out b h
            · omega
          have H2 := Lib.hid (And.intro hN2 (And.intro hB2 hG2))
          clear hown hgr hnew hN2 hB2 hG2
          go_wp2_with fail
          go_roundw
          case rel => exact ⟨k + 1, by omega, by go_num, by rw [HU.out]; exact H2.out.1, H2.out.2.1, H2.out.2.2⟩
          case measure => simp [intOf]; omega
      · have hq : ks.take k = ks := List.take_of_length_le (by omega)
        rw [hq] at HN
        clear hq hn
        go_wp2_with fail
        go_ret2
        rw [HX.out]
        exact ⟨K1.out.trans (HB.out.mono hs1), _, rfl, HN.out⟩
end Go.Proofs.Ytklmpagpkeffjaa

/- a map of the call's own, from numbers to bools: what is looked up, what is put -/
namespace Go.Proofs.Ytklmpagpkeffjaa
open Go.RowKit

theorem keyedInt : Go.Maps.Keyed Try.prog 3 := Go.Maps.int_keyed Try.underlying3
theorem zeroBool (w : World) : (zeroValue 4).run Try.prog w = .ok (.bool false) w := by kernel_rfl

theorem plainElem_bool_inv {H : Type} {e : TypeId} (he : Try.prog.underlying e = some .bool) {v : Value} {z : DataW H × List MemPlace} (h : plainElem Try.prog e v = some z) : ∃ x, v = .bool x ∧ z = (.lit (.bool x), []) := by
  unfold plainElem at h
  rw [he] at h
  cases v with
  | bool x => simp at h; exact ⟨x, rfl, h.symm⟩
  | _ => simp at h

/-- Block b is a map of at most n entries: at the key x the bool f x. -/
def MapB (w : World) (b n : Nat) (f : Int → Bool) : Prop :=
  ∃ D : DataW Unit, w.ownsMap Try.prog 3 (plainElem Try.prog 4) b n D ∧ ∀ x : Int, i64ok x → D.atKey (.int .i64 x) (.lit (.bool false)) = .lit (.bool (f x))

theorem MapB.made (w : World) : MapB (w.alloc (.map #[] 0)) w.heap.size 0 (fun _ => false) :=
  ⟨.map [], World.ownsMap_made _ _ _ _, fun _ _ => rfl⟩
theorem MapB.lt {w : World} {b n : Nat} {f : Int → Bool} (h : MapB w b n f) : b < w.heap.size := h.choose_spec.1.lt
theorem MapB.mono {w : World} {b n n' : Nat} {f : Int → Bool} (h : MapB w b n f) (hn : n ≤ n') : MapB w b n' f := by
  obtain ⟨D, h1, h2⟩ := h
  exact ⟨D, h1.mono hn, h2⟩
theorem MapB.fr {D : Nat → Prop} {w w' : World} {b n : Nat} {f : Int → Bool} (h : MapB w b n f) (hf : Fr D w w') (hD : ¬ D b) : MapB w' b n f := by
  obtain ⟨D', h1, h2⟩ := h
  have hlt := h1.lt
  obtain ⟨es, clock, hb, F, hs, hd⟩ := h1
  exact ⟨D', ⟨es, clock, (hf.2.2.2.2 b hlt hD).trans hb, F, hs, hd⟩, h2⟩
theorem MapB.below {w w' : World} {b n B : Nat} {f : Int → Bool} (h : MapB w b n f) (hb : Below B w w') (hB : b < B) : MapB w' b n f := by
  obtain ⟨D', h1, h2⟩ := h
  obtain ⟨es, clock, hh, F, hs, hd⟩ := h1
  exact ⟨D', ⟨es, clock, (hb.block b hB).trans hh, F, hs, hd⟩, h2⟩
theorem MapB.step {w w' : World} {b n : Nat} {f : Int → Bool} (h : MapB w b n f) (hb : Below w.heap.size w w') : MapB w' b n f := h.below hb h.lt
theorem MapB.alloc {w : World} {b n : Nat} {f : Int → Bool} (h : MapB w b n f) (o : Obj) : MapB (w.alloc o) b n f := h.step ((Below.refl _ _).alloc (Nat.le_refl _) o)
theorem MapB.congr {w : World} {b n : Nat} {f f' : Int → Bool} (h : MapB w b n f) (hf : ∀ x, i64ok x → f x = f' x) : MapB w b n f' := by
  obtain ⟨D, h1, h2⟩ := h
  exact ⟨D, h1, fun x hx => by rw [h2 x hx, hf x hx]⟩

/-- 'm[k]', an equation for the walk. -/
theorem MapB.look {w : World} {b n : Nat} {f : Int → Bool} (h : MapB w b n f) {t : TypeId} (ht : Try.prog.underlying t = some (.map 3 4)) {k : Int} (hk : i64ok k) : (Instr.lookup t (.map (some b)) (.int .i64 k) false).run Try.prog w = .ok (.bool (f k)) w := by
  obtain ⟨D, h1, h2⟩ := h
  obtain ⟨v, ps, hrun, hv⟩ := h1.lookup keyedInt ht (zeroBool w) (plainElem_bool Try.underlying4 false) (Go.Maps.keyOf_int_mk Try.underlying3 (WalkArith.wf_i64 hk))
  rw [h2 k hk] at hv
  obtain ⟨c, rfl, hc⟩ := plainElem_bool_inv Try.underlying4 hv
  simp only [Prod.mk.injEq] at hc
  have hcf : f k = c := by simpa using hc.1
  rw [hcf]
  exact hrun

/-- 'm[k]' -/
theorem wpList_lookup_mapB (w : World) {ops : Array Oper} {rest : List Oper} {o : Oper} {a : Act} {Q : Exit → Act → World → Prop}
    (hg : o.guard = none) (m x : Operand) (t : TypeId) (hop : o.op = Op.lookup t m x false) (ht : Try.prog.underlying t = some (.map 3 4)) (b n : Nat) (f : Int → Bool)
    (hm : a.eval m = .map (some b)) (h : MapB w b n f) (k : Int) (hx : a.eval x = .int .i64 k) (hk : i64ok k)
    (hK : wpList Try.prog ops Q rest (a.put o.dst (.bool (f k))) w) : wpList Try.prog ops Q (o :: rest) a w := by
  refine wpList_plain hg fun K' hK' => ?_
  obtain ⟨D, h1, h2⟩ := h
  obtain ⟨v, ps, hrun, hv⟩ := h1.lookup keyedInt ht (zeroBool w) (plainElem_bool Try.underlying4 false) (Go.Maps.keyOf_int_mk Try.underlying3 (WalkArith.wf_i64 hk))
  rw [h2 k hk] at hv
  obtain ⟨c, rfl, hc⟩ := plainElem_bool_inv Try.underlying4 hv
  simp only [Prod.mk.injEq] at hc
  have hcf : f k = c := by simpa using hc.1
  rw [hcf] at hK
  unfold Oper.wp
  simp [execOp, hop, hm, hx, hrun, Result.andThen]
  exact hK' _ _ hK

/-- 'm[k] = true' -/
theorem wpList_put_mapB (w : World) {ops : Array Oper} {rest : List Oper} {o : Oper} {a : Act} {Q : Exit → Act → World → Prop}
    (hg : o.guard = none) (m x v : Operand) (t : TypeId) (hop : o.op = Op.mapUpdate t m x v) (ht : Try.prog.underlying t = some (.map 3 4)) (b n : Nat) (f : Int → Bool)
    (hm : a.eval m = .map (some b)) (h : MapB w b n f) (hn : n < maxLen) (k : Int) (hx : a.eval x = .int .i64 k) (hk : i64ok k) (hv : a.eval v = .bool true)
    (hK : ∀ w', MapB w' b (n + 1) (fun y => f y || decide (y = k)) → Fr (fun y => y = b) w w' → wpList Try.prog ops Q rest (a.put o.dst undef) w') : wpList Try.prog ops Q (o :: rest) a w := by
  refine wpList_plain hg fun K' hK' => ?_
  obtain ⟨D, h1, h2⟩ := h
  have hd : Maps.IsMap D := h1.isMap
  obtain ⟨w', hrun, r1, r2⟩ := h1.update (t := t) keyedInt ht hn (Go.Maps.keyOf_int_mk Try.underlying3 (WalkArith.wf_i64 hk)) (plainElem_bool Try.underlying4 true)
  unfold Oper.wp
  simp [execOp, hop, hm, hx, hv, hrun, Result.andThen]
  refine hK' _ _ (hK w' ⟨_, r1, fun y hy => ?_⟩ ⟨r2.os, r2.tape, r2.output, r2.size, fun y hy hn => r2.block y hy (fun e => hn (by injection e))⟩)
  by_cases hyk : y = k
  · subst hyk
    rw [Maps.atKey_put_same hd (by exact trivial)]
    simp
  · rw [Maps.atKey_put_other (by intro e; injection e with _ e; exact hyk e), h2 y hy]
    simp only [decide_eq_false hyk, Bool.or_false]
end Go.Proofs.Ytklmpagpkeffjaa

/- impl.isMade, impl.hasKeys, impl.madeOf, impl.allBuilt; spec.l4Keys -/
namespace Go.Proofs.Ytklmpagpkeffjaa
open Go.RowKit

theorem md_cell {s : Sh} {w : World} {S : Nat → Prop} {a : Option Addr} {c : Nat} {a' : Option Addr} {c' : Nat} (h : ShAt w S s a c a' c') {k : Nat} (hk : k < s.m.length) : ∃ b o, a = some ⟨b, o, none⟩ ∧ b < w.heap.size ∧ w.cell? ⟨b, o + k, none⟩ = some (.bool (s.mdI (k : Int))) := by
  obtain ⟨b, o, ha, hb, _, hc⟩ := ElAt.get h.1 (Below.refl _ _) hk
  refine ⟨b, o, ha, hb, ?_⟩
  rw [mdI_nat]
  unfold Sh.md
  rw [getD_len hk]
  exact hc

set_option maxHeartbeats 1000000 in
theorem isMade_any (s : Sh) (w : World) (S : Nat → Prop) (a : Option Addr) (c : Nat) (a' : Option Addr) (c' : Nat) (key : Int) (h : ShAt w S s a c a' c') :
    Calls Try.prog 62 #[.agg #[.slice a s.m.length c, .slice a' s.t.length c'], .int .i64 key] w fun e w' => e = .returned (.bool (s.mdI key)) ∧ Below w.heap.size w w' := by
  have K0 := Lib.hid (Ks.start (ty := 26) h)
  have hlm : s.m.length ≤ 9223372036854775807 := by have := h.1.1; have := h.1.2.1; omega
  clear h
  obtain ⟨x0, x1⟩ := K0.out.box
  cases hk : decide (0 ≤ key ∧ key < s.m.length)
  · have hv : s.mdI key = false := by
      cases hx : s.mdI key
      · rfl
      · have := mdI_bd hx
        rw [decide_eq_true this] at hk
        cases hk
    have HK := Lib.hid hk
    rw [hv]
    clear hk hv
    go_enter Try.func62, Try.ntmps62
    go_wp2_with fail
    refine (hasKey_any s _ S a c a' c' key K0.out.2).mono ?_
    rintro e w1 ⟨rfl, hb⟩
    rw [HK.out]
    have K1 := Lib.hid (K0.out.step hb)
    clear hb x0 x1
    go_wp2_with fail
    go_ret
    exact ⟨rfl, K1.out.done⟩
  · have hk2 : 0 ≤ key ∧ key < s.m.length := by simpa using hk
    obtain ⟨kn, rfl⟩ : ∃ kn : Nat, key = kn := ⟨key.toNat, by omega⟩
    have hkn : kn < s.m.length := by omega
    have HK := Lib.hid hk
    obtain ⟨v, hv⟩ : ∃ v, v = s.mdI (kn : Int) := ⟨_, rfl⟩
    have HV := Lib.hid hv
    rw [← hv]
    clear hk hv hk2
    go_enter Try.func62, Try.ntmps62
    go_wp2_with fail
    refine (hasKey_any s _ S a c a' c' kn K0.out.2).mono ?_
    rintro e w1 ⟨rfl, hb⟩
    rw [HK.out]
    have K1 := Lib.hid (K0.out.step hb)
    clear hb x0 x1
    obtain ⟨x0, x1⟩ := K1.out.box
    obtain ⟨b, o, ha, hbl, hc⟩ := md_cell K1.out.2 hkn
    rw [← HV.out] at hc
    subst ha
    go_wp2_with fail
    go_ret
    exact ⟨rfl, K1.out.done⟩

/-- All numbers are keys. -/
def hkB (s : Sh) (ks : List Int) : Bool := ks.all fun k => decide (0 ≤ k ∧ k < s.m.length)
theorem all_tk {p : Int → Bool} {l : List Int} {k : Nat} (h : k < l.length) : (l.take (k + 1)).all p = ((l.take k).all p && p l[k]) := by
  rw [List.take_succ_eq_append_getElem h, List.all_append]; simp
theorem all_fls {p : Int → Bool} {l : List Int} {k : Nat} (h : k < l.length) (hp : p l[k] = false) : l.all p = false := by
  cases hx : l.all p
  · rfl
  · rw [List.all_eq_true] at hx
    have := hx l[k] (List.getElem_mem h)
    rw [hp] at this; cases this

set_option maxHeartbeats 1000000 in
theorem hasKeys_any (s : Sh) (ks : List Int) (w : World) (S S' : Nat → Prop) (a : Option Addr) (c : Nat) (a' : Option Addr) (c' : Nat) (ak : Option Addr) (ck : Nat) (h : ShAt w S s a c a' c') (hks : IntsAt w S' ks ak ck) :
    Calls Try.prog 53 #[.agg #[.slice a s.m.length c, .slice a' s.t.length c'], .slice ak ks.length ck] w fun e w' => e = .returned (.bool (hkB s ks)) ∧ Below w.heap.size w w' := by
  have K0 := Lib.hid (Ks.start (ty := 26) h)
  have HI := Lib.hid (hks.alloc (.cells #[.slice a s.m.length c, .slice a' s.t.length c'] 26))
  have hkl : ks.length ≤ 9223372036854775807 := by have := hks.1; have := hks.2.1; omega
  obtain ⟨KL, hKL⟩ : ∃ n, n = ks.length := ⟨_, rfl⟩
  have HKL := Lib.hid hKL
  rw [← hKL] at hkl ⊢
  obtain ⟨r, hr⟩ : ∃ r, r = hkB s ks := ⟨_, rfl⟩
  have HR := Lib.hid hr
  rw [← hr]
  clear h hks hKL hr
  go_enter Try.func53, Try.ntmps53
  go_wp2_with fail
  go_loopw [9] (fun i wr => ∃ k : Nat, k ≤ KL ∧ i = .int .i64 k ∧ (ks.take k).all (fun k => decide (0 ≤ k ∧ k < s.m.length)) = true ∧ Ks S s a c a' c' 26 w wr ∧ IntsAt wr S' ks ak ck) (fun i _ => KL - (intOf i).toNat)
  case atStart => exact ⟨0, by omega, rfl, by simp, K0.out, HI.out⟩
  case round =>
    obtain ⟨k, hk, rfl, hall, hK, hI⟩ := hrel
    have HA := Lib.hid hall
    have HK := Lib.hid (And.intro hK hI)
    obtain ⟨x0, x1⟩ := hK.box
    clear hall hK hI K0 HI
    by_cases hlt : k < KL
    · have hlt2 : k < ks.length := by have := HKL.out; omega
      obtain ⟨b, o, rfl, hbl, _, hc⟩ := HK.out.2.get (Below.refl _ _) hlt2
      obtain ⟨key, hkey⟩ : ∃ key, key = ks[k] := ⟨_, rfl⟩
      rw [← hkey] at hc
      have HKEY := Lib.hid hkey
      obtain ⟨p, hp⟩ : ∃ p, p = decide (0 ≤ key ∧ key < s.m.length) := ⟨_, rfl⟩
      have HP := Lib.hid hp
      have HL2 := Lib.hid hlt2
      clear hkey hp
      go_wp2_with fail
      refine (hasKey_any s _ S a c a' c' key HK.out.1.2).mono ?_
      rintro e w1 ⟨rfl, hb⟩
      rw [← HP.out]
      have K1 := Lib.hid (And.intro (HK.out.1.step hb) (HK.out.2.below hb))
      clear hb x0 x1 hc
      cases p
      · go_wp2_with fail
        go_ret
        exact ⟨ret_bool (by rw [HR.out]; exact (all_fls HL2.out (by rw [← HKEY.out]; exact HP.out.symm)).symm), K1.out.1.done⟩
      · go_wp2_with fail
        go_roundw
        case rel => exact ⟨k + 1, by omega, by go_num, by rw [all_tk HL2.out, HA.out, ← HKEY.out, ← HP.out]; rfl, K1.out.1, K1.out.2⟩
        case measure => simp [intOf]; omega
    · have hall : hkB s ks = true := by
        have := HA.out
        rwa [List.take_of_length_le (by have := HKL.out; omega)] at this
      have HALL := Lib.hid hall
      clear hall
      go_wp2_with fail
      go_ret
      exact ⟨ret_bool (by rw [HR.out, HALL.out]), HK.out.1.done⟩

/-- Those of some keys that are made. -/
def MoPost (s : Sh) (ks : List Int) (w : World) (e : Ending) (w' : World) : Prop := ∃ v, e = .returned v ∧ NumRow w' w.heap.size v (ks.filter s.mdI) ∧ Below w.heap.size w w'

set_option maxRecDepth 100000 in
set_option maxHeartbeats 2000000 in
theorem madeOf_any (s : Sh) (ks : List Int) (w : World) (S S' : Nat → Prop) (a : Option Addr) (c : Nat) (a' : Option Addr) (c' : Nat) (ak : Option Addr) (ck : Nat) (h : ShAt w S s a c a' c') (hks : IntsAt w S' ks ak ck) (h100 : ks.length ≤ 1000000) :
    Calls Try.prog 64 #[.agg #[.slice a s.m.length c, .slice a' s.t.length c'], .slice ak ks.length ck] w (MoPost s ks w) := by
  have K0 := Lib.hid (Ks.start (ty := 26) h.lim)
  have HI := Lib.hid (hks.alloc (.cells #[.slice a s.m.length c, .slice a' s.t.length c'] 26))
  have hkl : ks.length ≤ 9223372036854775807 := by omega
  obtain ⟨KL, hKL⟩ : ∃ n, n = ks.length := ⟨_, rfl⟩
  have HKL := Lib.hid hKL
  rw [← hKL] at hkl h100 ⊢
  obtain ⟨iN, ni, nz0, nz1, nz2⟩ := info_parts infoInt
  have HIN := Lib.hid (And.intro ni (And.intro nz0 (And.intro nz1 nz2)))
  have hml : maxLen = 9223372036854775807 := rfl
  have HML := Lib.hid hml
  clear h hks hKL ni nz0 nz1 nz2 hml
  go_enter Try.func64, Try.ntmps64
  go_wp2_with fail
  go_loopw [5, 10] (fun v i wr => ∃ k : Nat, k ≤ KL ∧ i = .int .i64 k ∧ NumRow wr (w.heap.size + 1) v ((ks.take k).filter s.mdI) ∧ Ks (fun b => S b ∧ b < w.heap.size) s a c a' c' 26 w wr ∧ IntsAt wr (fun b => S' b ∧ b < w.heap.size + 1) ks ak ck) (fun _ i _ => KL - (intOf i).toNat)
  case atStart => exact ⟨0, by omega, rfl, World.ownsRow_nil _ _ _ _, K0.out, by have := HI.out.lim; simpa using this⟩
  case round =>
    obtain ⟨k, hk, rfl, hrow, hK, hI⟩ := hrel
    have HK := Lib.hid (And.intro hK (And.intro hI hrow))
    obtain ⟨x0, x1⟩ := hK.box
    have hwr := hK.size
    clear hK hI K0 HI
    obtain ⟨acc, hacc⟩ : ∃ acc, acc = (ks.take k).filter s.mdI := ⟨_, rfl⟩
    have HAC := Lib.hid hacc
    have hal : acc.length ≤ k := by
      rw [hacc]
      have h1 := List.length_filter_le s.mdI (ks.take k)
      have h2 : (ks.take k).length ≤ k := by rw [List.length_take]; omega
      omega
    rw [← hacc] at hrow
    have HROW := Lib.hid hrow
    obtain ⟨av, cv, rfl, _⟩ := ElRow.at (f := Value.int .i64) (e := 3) hrow
    have HAL := Lib.hid hal
    clear hrow hacc hal
    by_cases hlt : k < KL
    · have hlt2 : k < ks.length := by have := HKL.out; omega
      obtain ⟨b, o, rfl, hbl, _, hc⟩ := HK.out.2.1.get (Below.refl _ _) hlt2
      obtain ⟨key, hkey⟩ : ∃ key, key = ks[k] := ⟨_, rfl⟩
      rw [← hkey] at hc
      obtain ⟨p, hp⟩ : ∃ p, p = s.mdI key := ⟨_, rfl⟩
      have HP := Lib.hid hp
      have HST := Lib.hid (show (ks.take (k + 1)).filter s.mdI = acc ++ (if p = true then [key] else []) by
        rw [List.take_succ_eq_append_getElem hlt2, List.filter_append, ← HAC.out, ← hkey, hp]
        congr 1
        rw [List.filter_cons]
        split <;> rfl)
      clear hkey hp
      go_wp2_with fail
      refine (isMade_any s _ _ a c a' c' key HK.out.1.2).mono ?_
      rintro e w1 ⟨rfl, hb⟩
      rw [← HP.out]
      have K1 := Lib.hid (And.intro (HK.out.1.step hb) (And.intro (HK.out.2.1.below hb) (ElRow.below (f := Value.int .i64) (e := 3) HROW.out hb)))
      have hs1 := hb.size
      clear hb x0 x1 hc
      cases p
      · go_wp2_with fail
        go_roundw
        case rel => exact ⟨k + 1, by omega, by go_num, by rw [HST.out, if_neg (by decide), List.append_nil]; exact K1.out.2.2, K1.out.1, K1.out.2.1⟩
        case measure => simp [intOf]; omega
      · have hal := HAL.out
        have hrow : w1.ownsRow (w.heap.size + 1) 3 1 (.slice av acc.length cv) acc.length (acc.map (Value.int .i64)) := K1.out.2.2
        have HR2 := Lib.hid hrow
        clear hrow
        go_wp2_with (at_builtin; refine wpList_append_row _ rfl (.tmp 17) (.tmp 19) 30 rfl (w.heap.size + 1) 3 iN (.int .i64 0) 1 8 Try.underlying30 HIN.out.1 HIN.out.2.1 HIN.out.2.2.1 HIN.out.2.2.2 rfl (by decide) _ acc.length (acc.map (Value.int .i64)) rfl (World.ownsRow.alloc HR2.out _) ⟨w1.heap.size, 0, none⟩ 1 1 [.int .i64 key] rfl rfl ?d1 ?d2 (by decide) ?d3 ?d4 ?d5 ?_)
        case d1 => exact news1 _ _ _
        case d2 => simp [Value.oneCell']
        case d3 => rw [HML.out]; omega
        case d4 => omega
        case d5 => simp; omega
        intro v2 w2 hown hgr hnew
        have hN2 : NumRow w2 (w.heap.size + 1) v2 (acc ++ [key]) := by
          unfold NumRow
          rw [List.map_append, show (acc ++ [key]).length = acc.length + 1 by simp]
          exact hown
        have hlt1 := World.ownsRow.lt HR2.out
        have hB2 : Below (w.heap.size + 1) w1 w2 := ((Below.refl _ _).alloc (by omega) (.cells #[.int .i64 key] 3)).trans (below_grown hgr (by simp; omega) (fun b hb => (hlt1 b hb).1))
        have hK2 : Ks (fun b => S b ∧ b < w.heap.size) s a c a' c' 26 w w2 := K1.out.1.fr (D := fun b => w.heap.size + 1 ≤ b) ⟨hB2.os, hB2.tape, hB2.output, hB2.size, fun b _ hn => hB2.block b (by omega)⟩ (fun _ h => h) (fun _ h => h.2)
        have hI2 : IntsAt w2 (fun b => S' b ∧ b < w.heap.size + 1) ks (some ⟨b, o, none⟩) ck := K1.out.2.1.keep (fun _ h => h) (fun b hb _ => hB2.block b hb.2)
        have H2 := Lib.hid (And.intro hN2 (And.intro hK2 hI2))
        clear hown hgr hnew hN2 hB2 hK2 hI2 hlt1 hal
        go_wp2_with fail
        go_roundw
        case rel => exact ⟨k + 1, by omega, by go_num, by rw [HST.out, if_pos trivial]; exact H2.out.1, H2.out.2.1, H2.out.2.2⟩
        case measure => simp [intOf]; omega
    · have hq : ks.take k = ks := List.take_of_length_le (by have := HKL.out; omega)
      have HQ := Lib.hid hq
      clear hq
      go_wp2_with fail
      go_ret
      exact ⟨_, rfl, by rw [← HQ.out, ← HAC.out]; exact ownsRow_low HROW.out (by omega), HK.out.1.done⟩

/-- All keys of a list are built. -/
theorem allBuilt_any (ks : List Int) (w : World) (S : Nat → Prop) (ak : Option Addr) (ck : Nat) (bm nm : Nat) (f : Int → Bool) (hks : IntsAt w S ks ak ck) (hm : MapB w bm nm f) :
    Calls Try.prog 63 #[.slice ak ks.length ck, .map (some bm)] w fun e w' => e = .returned (.bool (ks.all f)) ∧ w = w' := by
  have HI := Lib.hid hks
  have HM := Lib.hid hm
  have hkl : ks.length ≤ 9223372036854775807 := by have := hks.1; have := hks.2.1; omega
  obtain ⟨KL, hKL⟩ : ∃ n, n = ks.length := ⟨_, rfl⟩
  have HKL := Lib.hid hKL
  rw [← hKL] at hkl ⊢
  obtain ⟨r, hr⟩ : ∃ r, r = ks.all f := ⟨_, rfl⟩
  have HR := Lib.hid hr
  rw [← hr]
  clear hks hKL hr hm
  go_enter Try.func63, Try.ntmps63
  go_wp2_with fail
  go_loop [9] (fun i => ∃ k : Nat, k ≤ KL ∧ i = .int .i64 k ∧ (ks.take k).all f = true) (fun i => KL - (intOf i).toNat)
  case atStart => exact ⟨0, by omega, rfl, by simp⟩
  case round =>
    obtain ⟨k, hk, rfl, hall⟩ := hrel
    have HA := Lib.hid hall
    clear hall
    by_cases hlt : k < KL
    · have hlt2 : k < ks.length := by have := HKL.out; omega
      obtain ⟨b, o, rfl, hbl, _, hc⟩ := HI.out.get (Below.refl _ _) hlt2
      obtain ⟨key, hkey⟩ : ∃ key, key = ks[k] := ⟨_, rfl⟩
      have hkok : i64ok key := by rw [hkey]; exact HI.out.2.2.1 _ (List.getElem_mem _)
      rw [← hkey] at hc
      have HKEY := Lib.hid hkey
      have hlook := HM.out.look Try.underlying72 hkok
      obtain ⟨p, hp⟩ : ∃ p, p = f key := ⟨_, rfl⟩
      rw [← hp] at hlook
      have HP := Lib.hid hp
      have HL2 := Lib.hid hlt2
      clear hkey hp hkok
      cases p
      · go_wp2_with fail
        go_ret
        exact ⟨ret_bool (by rw [HR.out]; exact (all_fls HL2.out (by rw [← HKEY.out]; exact HP.out.symm)).symm), rfl⟩
      · go_wp2_with fail
        go_round
        case rel => exact ⟨k + 1, by omega, by go_num, by rw [all_tk HL2.out, HA.out, ← HKEY.out, ← HP.out]; rfl⟩
        case measure => simp [intOf]; omega
    · have hall : ks.all f = true := by
        have := HA.out
        rwa [List.take_of_length_le (by have := HKL.out; omega)] at this
      have HALL := Lib.hid hall
      clear hall
      go_wp2_with fail
      go_ret
      exact ⟨ret_bool (by rw [HR.out, HALL.out]), rfl⟩
end Go.Proofs.Ytklmpagpkeffjaa

/- what is safe is built with all inputs -/
namespace Go.Proofs.Ytklmpagpkeffjaa
open Go.RowKit

/-- What is safe is built with all inputs. -/
theorem safe_ok {s : Sh} (h : s.ok = true) (l : List Int) : ∀ (r : Nat) (k : Int), rkG (chM s) (fun k => !s.mdI k) k ≤ r → okM s k = true → okS s l k = true := by
  intro r
  induction r with
  | zero =>
    intro k hr hk
    cases hd : (fun k => !s.mdI k) k
    · refine (gr_S h l).up k fun j hj => ?_
      have hf := tkI_fit h k
      have hm := kys_may _ (s.tkI k) hf j hj
      have hb := (T.kys_bd _ (s.tkI k) hf).1 j hj
      have := ((gr_M s).down k hk hd j (mayI_mem.2 ⟨hb.1, by omega, hm⟩)).2
      omega
    · exact (gr_S h l).d0ok k hd
  | succ r ih =>
    intro k hr hk
    cases hd : (fun k => !s.mdI k) k
    · refine (gr_S h l).up k fun j hj => ?_
      have hf := tkI_fit h k
      have hm := kys_may _ (s.tkI k) hf j hj
      have hb := (T.kys_bd _ (s.tkI k) hf).1 j hj
      have hj' := (gr_M s).down k hk hd j (mayI_mem.2 ⟨hb.1, by omega, hm⟩)
      exact ih j (by omega) hj'.1
    · exact (gr_S h l).d0ok k hd
theorem safe_all {s : Sh} {l : List Int} (h : safeB s = true) (hl : l.length = s.m.length) (hv : vok l = true) : baB s l = true := by
  unfold safeB at h
  rw [Bool.and_eq_true, List.all_eq_true] at h
  unfold baB inOk baTo
  rw [h.1, hv, hl]
  simp only [decide_true, Bool.true_and, List.all_eq_true]
  exact fun i hi => safe_ok h.1 l _ _ (Nat.le_refl _) (h.2 i hi)
end Go.Proofs.Ytklmpagpkeffjaa

/- orders by suspending and by restarting: what is told, and how much; plain words, no program -/
namespace Go.Proofs.Ytklmpagpkeffjaa
open Go.RowKit

def d0S (s : Sh) : Int → Bool := fun k => !s.mdI k
noncomputable def suB (s : Sh) (l ks : List Int) : Bool := (inOk s l && hkB s ks) && ks.all (okS s l)
noncomputable def suL (s : Sh) (l ks : List Int) : List Int := if suB s l ks = true then endsL emS (chS s l) (d0S s) ks else []
noncomputable def rsB (s : Sh) (l ks : List Int) : Bool := (inOk s l && hkB s ks) && safeB s
noncomputable def rsL (s : Sh) (l ks : List Int) : List Int := if rsB s l ks = true then endsL emR (chS s l) (d0S s) ks else []

/-- What an order's function leaves. -/
def OrP (B : Bool) (L : List Int) (w : World) (e : Ending) (w' : World) : Prop := Below w.heap.size w w' ∧ ∃ v, e = .returned (.tuple #[v, .bool B]) ∧ NumRow w' w.heap.size v L
theorem OrP.su_no {s : Sh} {l ks : List Int} {w w' : World} {v : Value} (h : suB s l ks = false) (hb : Below w.heap.size w w') (hv : NumRow w' w.heap.size v []) : OrP (suB s l ks) (suL s l ks) w (.returned (.tuple #[v, .bool false])) w' := by
  unfold suL
  rw [h, if_neg (by decide)]
  exact ⟨hb, v, rfl, hv⟩
theorem OrP.su_yes {s : Sh} {l ks : List Int} {w w' : World} {v : Value} {o : List Int} {m : Nat} (h : suB s l ks = true) (ho : Ends emS (chS s l) (d0S s) ks o m) (hb : Below w.heap.size w w') (hv : NumRow w' w.heap.size v o) : OrP (suB s l ks) (suL s l ks) w (.returned (.tuple #[v, .bool true])) w' := by
  unfold suL
  rw [h, if_pos rfl, endsL_eq ho]
  exact ⟨hb, v, rfl, hv⟩
theorem OrP.rs_no {s : Sh} {l ks : List Int} {w w' : World} {v : Value} (h : rsB s l ks = false) (hb : Below w.heap.size w w') (hv : NumRow w' w.heap.size v []) : OrP (rsB s l ks) (rsL s l ks) w (.returned (.tuple #[v, .bool false])) w' := by
  unfold rsL
  rw [h, if_neg (by decide)]
  exact ⟨hb, v, rfl, hv⟩
theorem OrP.rs_yes {s : Sh} {l ks : List Int} {w w' : World} {v : Value} {o : List Int} {m : Nat} (h : rsB s l ks = true) (ho : Ends emR (chS s l) (d0S s) ks o m) (hb : Below w.heap.size w w') (hv : NumRow w' w.heap.size v o) : OrP (rsB s l ks) (rsL s l ks) w (.returned (.tuple #[v, .bool true])) w' := by
  unfold rsL
  rw [h, if_pos rfl, endsL_eq ho]
  exact ⟨hb, v, rfl, hv⟩

theorem emR_cnt : ∀ (k : Int) (y : Option Int) (x : Int), (emR k y).count x ≤ if x = k then 1 else 0 := fun k y x => by
  unfold emR
  rw [List.count_singleton]
  by_cases h : x = k
  · subst h; simp
  · have : (k == x) = false := by simpa using fun e => h e.symm
    simp [this]
theorem emS_cnt : ∀ (k : Int) (y : Option Int) (x : Int), (emS k y).count x ≤ if x = k then 1 else 0 := fun k y x => by
  unfold emS
  split
  · exact emR_cnt k y x
  · simp

/-- What is safe never fails. -/
theorem safe_oks {s : Sh} {l : List Int} (hin : inOk s l = true) (hs : safeB s = true) (k : Int) : okS s l k = true := by
  obtain ⟨h1, _, _⟩ := inOk_of hin
  cases hm : s.mdI k
  · exact (gr_S h1 l).d0ok k (by simp only [hm]; rfl)
  · unfold safeB at hs
    rw [Bool.and_eq_true, List.all_eq_true] at hs
    have hk := mdI_bd hm
    have h := hs.2 k.toNat (List.mem_range.2 (by omega))
    rw [show ((k.toNat : Nat) : Int) = k by omega] at h
    exact safe_ok hs.1 l _ _ (Nat.le_refl _) h

theorem cnt_bd {s : Sh} {l : List Int} (hok : s.ok = true) (x : Int) : cnt (chS s l) (d0S s) x ≤ 16 := by
  unfold cnt
  split
  · omega
  · have h1 := List.length_filter_le (fun y => !d0S s y) (usesL (chS s l x))
    have h2 := usesL_len (chS s l x)
    have h3 := (T.kys_bd (vsS s l) (s.tkI x) (tkI_fit hok _)).2
    have h4 := (Sh.tk_fit hok x.toNat).2
    have h5 : (chS s l x).length ≤ (s.tkI x).nodes := h3
    have h6 : (s.tkI x).nodes ≤ 15 := h4
    omega
theorem ends_bd {s : Sh} {l o : List Int} (hok : s.ok = true) (hf : ∀ x, o.count x ≤ cnt (chS s l) (d0S s) x) : (∀ x ∈ o, s.mdI x = true) ∧ o.length ≤ 160 := by
  have h1 : ∀ x ∈ o, s.mdI x = true := fun x hx => by
    have h := hf x
    have h2 := List.count_pos_iff.2 hx
    cases hm : s.mdI x
    · unfold cnt at h
      rw [if_pos (by unfold d0S; rw [hm]; rfl)] at h
      omega
    · rfl
  refine ⟨h1, ?_⟩
  have h3 := len_count s.m.length o 16 (fun x hx => mdI_bd (h1 x hx)) (fun x => Nat.le_trans (hf x) (cnt_bd hok x))
  have := (Sh.ok_iff.1 hok).1
  have : s.m.length * 16 ≤ 10 * 16 := Nat.mul_le_mul_right 16 this
  omega
theorem rsL_bd (s : Sh) (l ks : List Int) : (∀ x ∈ rsL s l ks, 0 ≤ x ∧ x < 10) ∧ (rsL s l ks).length ≤ 160 := by
  unfold rsL
  split
  · rename_i h
    unfold rsB at h
    rw [Bool.and_eq_true, Bool.and_eq_true] at h
    have hok := (inOk_of h.1.1).1
    obtain ⟨o, m, he, hc⟩ := ends_all (em := emR) (gr_S hok l) emR_cnt ks (fun x _ => safe_oks h.1.1 h.2 x) (d0S s) (fun _ h => h) (fun x _ => safe_oks h.1.1 h.2 x)
    rw [endsL_eq he]
    have hb := ends_bd hok hc
    refine ⟨fun x hx => ?_, hb.2⟩
    have := mdI_bd (hb.1 x hx)
    have := (Sh.ok_iff.1 hok).1
    omega
  · simp
theorem suL_bd (s : Sh) (l ks : List Int) : (∀ x ∈ suL s l ks, 0 ≤ x ∧ x < 10) ∧ (suL s l ks).length ≤ 160 := by
  unfold suL
  split
  · rename_i h
    unfold suB at h
    rw [Bool.and_eq_true, Bool.and_eq_true, List.all_eq_true] at h
    have hok := (inOk_of h.1.1).1
    obtain ⟨o, m, he, hc⟩ := ends_all (em := emS) (gr_S hok l) emS_cnt ks h.2 (d0S s) (fun _ h => h) (fun x hx => (gr_S hok l).d0ok x hx)
    rw [endsL_eq he]
    have hb := ends_bd hok hc
    refine ⟨fun x hx => ?_, hb.2⟩
    have := mdI_bd (hb.1 x hx)
    have := (Sh.ok_iff.1 hok).1
    omega
  · simp
end Go.Proofs.Ytklmpagpkeffjaa

/- spec.l4Try -/
namespace Go.Proofs.Ytklmpagpkeffjaa
open Go.RowKit

/-- What is done: what is not made, and what is on the list. -/
def dnS (s : Sh) (D : List Int) : Int → Bool := fun k => !s.mdI k || decide (k ∈ D)
theorem dnS_nil (s : Sh) : dnS s [] = d0S s := by funext k; simp [dnS, d0S]
theorem dnS_snoc (s : Sh) (D : List Int) (k : Int) : dnS s (D ++ [k]) = upd (dnS s D) k := by
  funext x
  simp [dnS, upd, Bool.or_assoc]
theorem dnS_lo {s : Sh} {D : List Int} {x : Int} (h : d0S s x = true) : dnS s D x = true := by unfold dnS; unfold d0S at h; rw [h]; rfl

/-- What a try leaves. -/
def TryPost (s : Sh) (l D : List Int) (k : Nat) (w : World) (e : Ending) (w' : World) : Prop :=
  Below w.heap.size w w' ∧ ((∃ j, nxt (chS s l) (dnS s D) k = some j ∧ e = .returned (.tuple #[.int .i64 0, .int .i64 j, .bool false])) ∨ (nxt (chS s l) (dnS s D) k = none ∧ e = .returned (.tuple #[.int .i64 (vsS s l k), .int .i64 (-1), .bool true])))

/-- What l2Next gives, in two. -/
theorem NextPost.both {K : List Int} {m : Nat} {w : World} {v : Int} {e : Ending} {w' : World} (h : NextPost K m w v e w') : ∃ x y b, e = .returned (.tuple #[.int .i64 x, .int .i64 y, .bool b]) ∧ Below w.heap.size w w' ∧ ((b = true ∧ m = K.length ∧ x = v) ∨ (b = false ∧ m < K.length ∧ K[m]? = some y)) := by
  obtain ⟨hb, ⟨h1, lk, rfl⟩ | ⟨h1, u, key, hk, rfl⟩⟩ := h
  · exact ⟨_, _, _, rfl, hb, .inl ⟨rfl, h1, rfl⟩⟩
  · exact ⟨_, _, _, rfl, hb, .inr ⟨rfl, h1, hk⟩⟩

set_option maxRecDepth 100000 in
set_option maxHeartbeats 4000000 in
theorem try4_any (s : Sh) (l vl D : List Int) (k : Nat) (w : World) (S0 S1 S2 : Nat → Prop) (a : Option Addr) (c : Nat) (a' : Option Addr) (c' : Nat) (av : Option Addr) (cv : Nat) (ad : Option Addr) (cd : Nat) (hat : ShAt w S0 s a c a' c') (hv : IntsAt w S1 vl av cv) (hd : IntsAt w S2 D ad cd)
    (hin : inOk s l = true) (hk : k < s.m.length) (hmk : s.mdI (k : Int) = true) (hvl : ∀ x, 0 ≤ x → vf vl x = if dnS s D x = true then vsS s l x else vf l x) (hok : ∀ x, dnS s D x = true → okS s l x = true) :
    Calls Try.prog 75 #[.agg #[.slice a s.m.length c, .slice a' s.t.length c'], .slice av vl.length cv, .slice ad D.length cd, .int .i64 (k : Int)] w (TryPost s l D k w) := by
  obtain ⟨h1, h2, h3⟩ := inOk_of hin
  have hlm : s.m.length ≤ 10 := (Sh.ok_iff.1 h1).1
  have htl : s.t.length = s.m.length := (Sh.ok_iff.1 h1).2.1
  have hkt : k < s.t.length := by omega
  have K0 := Lib.hid (Ks.start (ty := 26) hat.lim)
  have V0 := Lib.hid (hv.lim.alloc (.cells #[.slice a s.m.length c, .slice a' s.t.length c'] 26))
  have D0 := Lib.hid (hd.lim.alloc (.cells #[.slice a s.m.length c, .slice a' s.t.length c'] 26))
  have HOK := Lib.hid h1
  have HIN := Lib.hid hin
  have HMK := Lib.hid hmk
  have HVL := Lib.hid hvl
  have HDO := Lib.hid hok
  have HTL := Lib.hid htl
  have htk : s.t[k] = s.tkI (k : Int) := by unfold Sh.tkI; rw [Int.toNat_natCast]; exact (getD_len hkt).symm
  have HTK := Lib.hid htk
  obtain ⟨K, hK⟩ : ∃ K, K = chS s l (k : Int) := ⟨_, rfl⟩
  have hKb := (T.kys_bd (vsS s l) (s.tkI (k : Int)) (tkI_fit h1 _))
  have hkl15 : K.length ≤ 15 := by
    rw [hK]
    have h2 := (Sh.tk_fit h1 (k : Int).toNat).2
    have h3 : (chS s l k).length ≤ (s.tkI (k : Int)).nodes := hKb.2
    have h4 : (s.tkI (k : Int)).nodes ≤ 15 := h2
    omega
  have HKB := Lib.hid (show ∀ y ∈ K, 0 ≤ y ∧ y ≤ 9 from by rw [hK]; exact hKb.1)
  have hvb := vsS_bd hin
  have HNX := Lib.hid (show ∀ (m : Nat), m ≤ K.length → ∀ (w : World) (S S' : Nat → Prop) (a a' : Option Addr) (c c' : Nat), AtS w S (s.tkI (k : Int)).ps a c → IntsAt w S' ((K.take m).map (vsS s l)) a' c' → Calls Try.prog 108 #[.agg #[.int .i64 (s.tkI (k : Int)).k, .int .i64 (s.tkI (k : Int)).n, .slice a (s.tkI (k : Int)).ps.length c], .slice a' m c'] w (NextPost K m w ((s.tkI (k : Int)).val (vsS s l))) from by
    rw [hK]
    exact next_any (vsS s l) hvb (s.tkI (k : Int)) (tkI_fit h1 _))
  have HVB := Lib.hid hvb
  have HK := Lib.hid hK
  obtain ⟨iN, ni, nz0, nz1, nz2⟩ := info_parts infoInt
  have HI2 := Lib.hid (And.intro ni (And.intro nz0 (And.intro nz1 nz2)))
  have hml : maxLen = 9223372036854775807 := rfl
  have HML := Lib.hid hml
  clear hat hv hd h1 h2 h3 htl hin hmk hvl hok htk hK hKb hvb ni nz0 nz1 nz2 hml
  obtain ⟨x0, x1⟩ := K0.out.box
  have K1 := Lib.hid (K0.out.alloc (.cells #[] 3))
  have V1 := Lib.hid (V0.out.alloc (.cells #[] 3))
  have D1 := Lib.hid (D0.out.alloc (.cells #[] 3))
  have hg1 := rowN_new (w.alloc (.cells #[.slice a s.m.length c, .slice a' s.t.length c'] 26))
  simp only [World.size_alloc] at hg1
  have HG1 := Lib.hid hg1
  clear hg1
  obtain ⟨b', o', a2, c2, rfl, hbl', hSb', e0, e1, e2, hat, _, _⟩ := K1.out.2.2.elem (Below.refl _ _) hkt
  rw [HTK.out] at hat e0 e1 e2
  have HAT := Lib.hid hat
  clear hat K0 V0 D0 x0 x1
  obtain ⟨x0, x1⟩ := K1.out.box
  go_enter Try.func75, Try.ntmps75
  go_wp2_with fail
  refine (HNX.out 0 (Nat.zero_le _) _ _ (fun _ => True) a2 _ c2 0 HAT.out (IntsAt.nil (by omega))).mono ?_
  intro e w2 hp
  obtain ⟨x, y, bb, rfl, hb, hcase⟩ := hp.both
  have hg2 := ElRow.below (f := Value.int .i64) (e := 3) HG1.out hb
  have H2 := Lib.hid (And.intro (K1.out.step hb) (And.intro (V1.out.below hb) (And.intro (D1.out.below hb) (And.intro hg2 hcase))))
  clear hp hb hcase hg2 K1 V1 D1 HG1 HAT e0 e1 e2 x0 x1 hbl'
  go_wp2_with fail
  go_loopw [11, 12, 13, 14] (fun vg vx vy vb wr => ∃ (m : Nat) (x y : Int) (b : Bool), m ≤ K.length ∧ vx = .int .i64 x ∧ vy = .int .i64 y ∧ vb = .bool b ∧ (∀ j ∈ K.take m, dnS s D j = true) ∧ NumRow wr (w.heap.size + 1) vg ((K.take m).map (vsS s l)) ∧
    Ks (fun b => S0 b ∧ b < w.heap.size) s a c (some ⟨b', o', none⟩) c' 26 w wr ∧ IntsAt wr (fun b => S1 b ∧ b < w.heap.size) vl av cv ∧ IntsAt wr (fun b => S2 b ∧ b < w.heap.size) D ad cd ∧ ((b = true ∧ m = K.length ∧ x = (s.tkI (k : Int)).val (vsS s l)) ∨ (b = false ∧ m < K.length ∧ K[m]? = some y))) (fun vg _ _ _ _ => K.length - slLen vg)
  case atStart => exact ⟨0, x, y, bb, Nat.zero_le _, rfl, rfl, rfl, by simp, H2.out.2.2.2.1, H2.out.1, H2.out.2.1, H2.out.2.2.1, H2.out.2.2.2.2⟩
  case round =>
    obtain ⟨m, x, y, b, hm, rfl, rfl, rfl, hdn, hg, hKs, hV, hD, hcase⟩ := hrel
    have H3 := Lib.hid (And.intro hdn (And.intro hg (And.intro hKs (And.intro hV hD))))
    have hws := hKs.size
    obtain ⟨x0, x1⟩ := hKs.box
    have HSL := Lib.hid (show slLen u11 = m from by rw [NumRow.len hg, got_len hm])
    obtain ⟨ag, cg, hvg, hia⟩ := NumRow.at hg (fun x hx => by
      obtain ⟨j, _, rfl⟩ := List.mem_map.1 hx
      have := HVB.out j
      unfold i64ok; omega)
    rw [got_len hm] at hvg
    subst hvg
    have HM := Lib.hid hm
    clear hdn hg hKs hV hD H2 hm hia
    rcases hcase with ⟨rfl, hmK, hx⟩ | ⟨rfl, hlt, hky⟩
    · have hall : ∀ j ∈ K, dnS s D j = true := fun j hj => H3.out.1 j (by rw [List.take_of_length_le (by omega)]; exact hj)
      have hno : nxt (chS s l) (dnS s D) (k : Int) = none := by
        unfold nxt
        rw [← HK.out, List.find?_eq_none]
        intro j hj
        rw [hall j hj]; simp
      have hval : x = vsS s l (k : Int) := by
        rw [hx]
        exact (vsS_made HOK.out HMK.out ((gr_S HOK.out l).up (k : Int) (fun j hj => HDO.out j (hall j (by rw [HK.out]; exact hj))))).symm
      have HV := Lib.hid (And.intro hno hval)
      clear hmK hx hall hno hval
      go_wp2_with fail
      go_ret3
      exact ⟨H3.out.2.2.1.done, .inr ⟨HV.out.1, by rw [← HV.out.2]; rfl⟩⟩
    · have hyb := HKB.out y (List.mem_of_getElem? hky)
      obtain ⟨yn, rfl⟩ : ∃ yn : Nat, y = yn := ⟨y.toNat, by omega⟩
      have HKY := Lib.hid (And.intro hlt hky)
      have hmle : m ≤ 15 := by omega
      clear hlt hky
      cases hyd : dnS s D (yn : Int)
      · have hno : nxt (chS s l) (dnS s D) (k : Int) = some (yn : Int) := by
          unfold nxt
          rw [← HK.out]
          exact find_at H3.out.1 HKY.out.2 hyd
        have HNO := Lib.hid hno
        have hym : s.mdI (yn : Int) = true := by
          cases hz : s.mdI (yn : Int)
          · unfold dnS at hyd; rw [hz] at hyd; simp at hyd
          · rfl
        have hyD : decide ((yn : Int) ∈ D) = false := by
          unfold dnS at hyd
          rw [Bool.or_eq_false_iff] at hyd
          exact hyd.2
        have hyl : yn < s.m.length := by have := (mdI_bd hym).2; omega
        obtain ⟨bm, om, ha, hbml, hcm⟩ := md_cell H3.out.2.2.1.2 hyl
        rw [hym] at hcm
        have HYD := Lib.hid hyD
        have HA := Lib.hid ha
        clear hno hym hyD hyd ha
        obtain rfl := HA.out
        go_wp2_with fail
        refine (has_any wr _ D ad cd (yn : Int) H3.out.2.2.2.2).mono ?_
        rintro e w4 ⟨rfl, rfl⟩
        rw [HYD.out]
        go_wp2_with fail
        go_ret3
        exact ⟨H3.out.2.2.1.done, .inl ⟨_, HNO.out, rfl⟩⟩
      · have hvy : vf vl (yn : Int) = vsS s l (yn : Int) := by rw [HVL.out _ (by omega), hyd, if_pos rfl]
        obtain ⟨v4, hv4⟩ : ∃ v, v = vsS s l (yn : Int) := ⟨_, rfl⟩
        rw [← hv4] at hvy
        have HV4 := Lib.hid (And.intro hyd (And.intro hvy hv4))
        have hml : (((K.take m).map (vsS s l))).length = m := got_len HM.out
        obtain ⟨G, hG⟩ : ∃ G, G = (K.take m).map (vsS s l) := ⟨_, rfl⟩
        have HGE := Lib.hid hG
        have HGN := Lib.hid (show G.length = m by rw [hG]; exact hml)
        have hgow2 : wr.ownsRow (w.heap.size + 1) 3 1 (.slice ag m cg) m (G.map (.int .i64)) := by
          have h := H3.out.2.1
          unfold NumRow at h
          rwa [hml, ← hG] at h
        have HGO := Lib.hid hgow2
        have htri : (yn < s.m.length ∧ s.mdI (yn : Int) = true ∧ decide ((yn : Int) ∈ D) = true) ∨ (yn < s.m.length ∧ s.mdI (yn : Int) = false) ∨ s.m.length ≤ yn := by
          by_cases h1 : yn < s.m.length
          · cases h2 : s.mdI (yn : Int)
            · exact .inr (.inl ⟨h1, rfl⟩)
            · refine .inl ⟨h1, rfl, ?_⟩
              unfold dnS at hyd
              rw [h2] at hyd
              simpa using hyd
          · exact .inr (.inr (by omega))
        clear hml hG hgow2 hvy hv4 hyd
        rcases htri with ⟨hyl, hym, hyD⟩ | ⟨hyl, hym⟩ | hyl
        case' inl =>
          obtain ⟨bm, om, ha, hbml, hcm⟩ := md_cell H3.out.2.2.1.2 hyl
          rw [hym] at hcm
          have HYD := Lib.hid hyD
          have HA := Lib.hid ha
          clear hym hyD ha
          obtain rfl := HA.out
          go_wp2_with fail
          refine (has_any wr _ D ad cd (yn : Int) H3.out.2.2.2.2).mono ?_
          rintro e w4 ⟨rfl, rfl⟩
          rw [HYD.out]
          go_wp2_with fail
          clear hcm hbml HA HYD
        case' inr.inl =>
          obtain ⟨bm, om, ha, hbml, hcm⟩ := md_cell H3.out.2.2.1.2 hyl
          rw [hym] at hcm
          have HA := Lib.hid ha
          clear hym ha
          obtain rfl := HA.out
          go_wp2_with fail
          clear hcm hbml HA
        case' inr.inr => go_wp2_with fail
        all_goals
          refine (of_any wr _ vl av cv H3.out.2.2.2.1 (yn : Int) (by omega) (by omega)).mono ?_
          rintro e w4 ⟨rfl, rfl⟩
          rw [HV4.out.2.1]
          clear hyl
          go_wp2_with (at_builtin; refine wpList_append_row _ rfl (.tmp 48) (.tmp 52) 30 rfl (w.heap.size + 1) 3 iN (.int .i64 0) 1 8 Try.underlying30 HI2.out.1 HI2.out.2.1 HI2.out.2.2.1 HI2.out.2.2.2 rfl (by decide) _ m (G.map (.int .i64)) rfl (World.ownsRow.alloc HGO.out _) ⟨wr.heap.size, 0, none⟩ 1 1 [.int .i64 v4] rfl rfl ?f1 ?f2 (by decide) ?f3 ?f4 ?f5 ?_)
          case f1 => exact news1 _ _ _
          case f2 => simp [Value.oneCell']
          case f3 => rw [HML.out]; omega
          case f4 => omega
          case f5 => simp; omega
          intro vg6 w6 hown hgr hnew
          have hltg := World.ownsRow.lt HGO.out
          have hB6 : Below (w.heap.size + 1) wr w6 := ((Below.refl _ _).alloc (by omega) (.cells #[.int .i64 v4] 3)).trans (below_grown hgr (by simp; omega) (fun b hb => (hltg b hb).1))
          have hFr : Fr (fun b => w.heap.size + 1 ≤ b) wr w6 := ⟨hB6.os, hB6.tape, hB6.output, hB6.size, fun b _ hn => hB6.block b (by omega)⟩
          have hK6 := H3.out.2.2.1.fr hFr (fun _ h => h) (fun _ h => h.2)
          clear hFr
          have hV6 := H3.out.2.2.2.1.keep (w' := w6) (fun _ h => h) (fun b hb _ => hB6.block b (by have := hb.2; omega))
          have hD6 := H3.out.2.2.2.2.keep (w' := w6) (fun _ h => h) (fun b hb _ => hB6.block b (by have := hb.2; omega))
          have htk1 : K.take (m + 1) = K.take m ++ [(yn : Int)] := take_succ_map HKY.out.2
          have hl6 : ((K.take (m + 1)).map (vsS s l)).length = m + 1 := got_len (by have := HKY.out.1; omega)
          have hg6 : NumRow w6 (w.heap.size + 1) vg6 ((K.take (m + 1)).map (vsS s l)) := by
            unfold NumRow
            rw [hl6, htk1, List.map_append, List.map_append, ← HGE.out]
            simp only [List.map_cons, List.map_nil]
            rw [← HV4.out.2.2]
            exact hown
          have hdn6 : ∀ j ∈ K.take (m + 1), dnS s D j = true := by
            rw [htk1]
            intro j hj
            rw [List.mem_append, List.mem_singleton] at hj
            rcases hj with hj | rfl
            · exact H3.out.1 j hj
            · exact HV4.out.1
          obtain ⟨ag6, cg6, hv6, hia6⟩ := NumRow.at hg6 (fun x hx => by
            obtain ⟨j, _, rfl⟩ := List.mem_map.1 hx
            have := HVB.out j
            unfold i64ok; omega)
          rw [hl6] at hv6
          subst hv6
          have hcg6 : m + 1 ≤ cg6 ∧ cg6 ≤ 9223372036854775807 := by have h1 := hia6.1; have h2 := hia6.2.1; rw [hl6] at h1; omega
          obtain ⟨b7, o7, a7, c7, he7, hbl7, hSb7, e0, e1, e2, hat, _, _⟩ := hK6.2.2.elem (Below.refl _ _) hkt
          injection he7 with he7
          injection he7 with he7 he7'
          subst he7 he7'
          rw [HTK.out] at hat e0 e1 e2
          have HAT := Lib.hid hat
          have HIA := Lib.hid hia6
          have H6 := Lib.hid (And.intro hdn6 (And.intro hg6 (And.intro hK6 (And.intro hV6 hD6))))
          obtain ⟨x0, x1⟩ := hK6.box
          have HLT := Lib.hid (show m + 1 ≤ K.length by have := HKY.out.1; omega)
          clear hown hgr hnew hltg hB6 hK6 hV6 hD6 htk1 hl6 hg6 hdn6 hia6 hat hSb7
          go_wp2_with fail
          refine (HNX.out (m + 1) HLT.out w6 _ _ a7 ag6 c7 cg6 HAT.out HIA.out).mono ?_
          intro e w7 hp
          obtain ⟨x7, y7, b8, rfl, hb, hcase⟩ := hp.both
          have H7 := Lib.hid (And.intro (ElRow.below (f := Value.int .i64) (e := 3) H6.out.2.1 hb) (And.intro (H6.out.2.2.1.step hb) (And.intro (H6.out.2.2.2.1.below hb) (And.intro (H6.out.2.2.2.2.below hb) hcase))))
          clear hp hb hcase e0 e1 e2
          go_wp2_with fail
          refine ⟨⟨m + 1, x7, y7, b8, HLT.out, rfl, rfl, rfl, H6.out.1, H7.out.1, H7.out.2.1, H7.out.2.2.1, H7.out.2.2.2.1, H7.out.2.2.2.2⟩, ?_⟩
          rw [HSL.out]
          simp only [slLen]
          have := HKY.out.1
          omega
end Go.Proofs.Ytklmpagpkeffjaa

/- where spec.OrderRestart stands: values, what is done, what is told, and a queue, each in memory of its own -/
namespace Go.Proofs.Ytklmpagpkeffjaa
open Go.RowKit

section
variable {em : Int → Option Int → List Int} {ch : Int → List Int} {d : Int → Bool} {q o : List Int} {m : Nat} {k : Int}
theorem Ends.inv_nil (h : Ends em ch d [] o m) : o = [] := by cases h; rfl
theorem Ends.inv_skip (h : Ends em ch d (k :: q) o m) (hk : d k = true) : ∃ m', m = m' + 1 ∧ Ends em ch d q o m' := by
  cases h with
  | skip _ h => exact ⟨_, rfl, h⟩
  | fin h2 _ _ => rw [hk] at h2; cases h2
  | more h2 _ _ => rw [hk] at h2; cases h2
theorem Ends.inv_fin (h : Ends em ch d (k :: q) o m) (hk : d k = false) (hn : nxt ch d k = none) : ∃ m' o', m = m' + 1 ∧ o = em k none ++ o' ∧ Ends em ch (upd d k) q o' m' := by
  cases h with
  | skip h2 _ => rw [hk] at h2; cases h2
  | fin _ _ h => exact ⟨_, _, rfl, rfl, h⟩
  | more _ h2 _ => rw [hn] at h2; cases h2
theorem Ends.inv_more {j : Int} (h : Ends em ch d (k :: q) o m) (hk : d k = false) (hn : nxt ch d k = some j) : ∃ m' o', m = m' + 1 ∧ o = em k (some j) ++ o' ∧ Ends em ch d (j :: k :: q) o' m' := by
  cases h with
  | skip h2 _ => rw [hk] at h2; cases h2
  | fin _ h2 _ => rw [hn] at h2; cases h2
  | more _ h2 h =>
    rw [hn] at h2
    injection h2 with h2
    subst h2
    exact ⟨_, _, rfl, rfl, h⟩
end

structure RsAt (w : World) (base : Nat) (vv vd vo : Value) (vl D O q : List Int) (aq : Option Addr) (cq : Nat) : Prop where
  v : NumRow w base vv vl
  d : NumRow w base vd D
  o : NumRow w base vo O
  q : ∃ Sq : Nat → Prop, IntsAt w Sq q aq cq ∧ ∀ b, Sq b → base ≤ b ∧ b < w.heap.size ∧ ¬ vv.ownBlock = some b ∧ ¬ vd.ownBlock = some b ∧ ¬ vo.ownBlock = some b
  nvd : ∀ b, vv.ownBlock = some b → ¬ vd.ownBlock = some b
  nvo : ∀ b, vv.ownBlock = some b → ¬ vo.ownBlock = some b
  ndo : ∀ b, vd.ownBlock = some b → ¬ vo.ownBlock = some b

section
variable {w w' : World} {base : Nat} {vv vd vo : Value} {vl D O q : List Int} {aq : Option Addr} {cq : Nat}
theorem num_fr {D : Nat → Prop} {b : Nat} {v : Value} {l : List Int} (h : NumRow w b v l) (hf : Fr D w w') (hD : ∀ g, v.ownBlock = some g → ¬ D g) : NumRow w' b v l := ElRow.frO (f := Value.int .i64) (e := 3) h hf hD
theorem RsAt.below (h : RsAt w base vv vd vo vl D O q aq cq) (hb : Below w.heap.size w w') : RsAt w' base vv vd vo vl D O q aq cq where
  v := ElRow.below (f := Value.int .i64) (e := 3) h.v hb
  d := ElRow.below (f := Value.int .i64) (e := 3) h.d hb
  o := ElRow.below (f := Value.int .i64) (e := 3) h.o hb
  q := by
    obtain ⟨Sq, h1, h2⟩ := h.q
    exact ⟨Sq, h1.below hb, fun b hs => ⟨(h2 b hs).1, Nat.lt_of_lt_of_le (h2 b hs).2.1 hb.size, (h2 b hs).2.2⟩⟩
  nvd := h.nvd
  nvo := h.nvo
  ndo := h.ndo
theorem RsAt.alloc (h : RsAt w base vv vd vo vl D O q aq cq) (ob : Obj) : RsAt (w.alloc ob) base vv vd vo vl D O q aq cq := h.below ((Below.refl _ _).alloc (Nat.le_refl _) ob)
/-- One is told. -/
theorem RsAt.pushO {vo' : Value} {O' : List Int} (h : RsAt w base vv vd vo vl D O q aq cq) (hf : Fr (fun b => vo.ownBlock = some b) w w') (hr : NumRow w' base vo' O') (hn : ∀ b, vo'.ownBlock = some b → vo.ownBlock = some b ∨ w.heap.size ≤ b) : RsAt w' base vv vd vo' vl D O' q aq cq where
  v := num_fr h.v hf (fun g hg => h.nvo g hg)
  d := num_fr h.d hf (fun g hg => h.ndo g hg)
  o := hr
  q := by
    obtain ⟨Sq, h1, h2⟩ := h.q
    refine ⟨Sq, h1.fr hf (fun b hb => (h2 b hb).2.2.2.2), fun b hs => ⟨(h2 b hs).1, Nat.lt_of_lt_of_le (h2 b hs).2.1 hf.size, (h2 b hs).2.2.1, (h2 b hs).2.2.2.1, fun e => ?_⟩⟩
    rcases hn b e with e | e
    · exact (h2 b hs).2.2.2.2 e
    · have := (h2 b hs).2.1; omega
  nvd := h.nvd
  nvo b hb e := by
    rcases hn b e with e | e
    · exact h.nvo b hb e
    · have := (World.ownsRow.lt h.v b hb).2; omega
  ndo b hb e := by
    rcases hn b e with e | e
    · exact h.ndo b hb e
    · have := (World.ownsRow.lt h.d b hb).2; omega
/-- One is done. -/
theorem RsAt.pushD {vd' : Value} {D' : List Int} (h : RsAt w base vv vd vo vl D O q aq cq) (hf : Fr (fun b => vd.ownBlock = some b) w w') (hr : NumRow w' base vd' D') (hn : ∀ b, vd'.ownBlock = some b → vd.ownBlock = some b ∨ w.heap.size ≤ b) : RsAt w' base vv vd' vo vl D' O q aq cq where
  v := num_fr h.v hf (fun g hg => h.nvd g hg)
  d := hr
  o := num_fr h.o hf (fun g hg e => h.ndo g e hg)
  q := by
    obtain ⟨Sq, h1, h2⟩ := h.q
    refine ⟨Sq, h1.fr hf (fun b hb => (h2 b hb).2.2.2.1), fun b hs => ⟨(h2 b hs).1, Nat.lt_of_lt_of_le (h2 b hs).2.1 hf.size, (h2 b hs).2.2.1, fun e => ?_, (h2 b hs).2.2.2.2⟩⟩
    rcases hn b e with e | e
    · exact (h2 b hs).2.2.2.1 e
    · have := (h2 b hs).2.1; omega
  nvd b hb e := by
    rcases hn b e with e | e
    · exact h.nvd b hb e
    · have := (World.ownsRow.lt h.v b hb).2; omega
  nvo := h.nvo
  ndo b hb e := by
    rcases hn b hb with h1 | h1
    · exact h.ndo b h1 e
    · have := (World.ownsRow.lt h.o b e).2; omega
/-- A value is set. -/
theorem RsAt.setV {g n cap : Nat} (h : RsAt w base (.slice (some ⟨g, 0, none⟩) n cap) vd vo vl D O q aq cq) (i : Nat) (x : Int) : RsAt (w.setCell ⟨g, i, none⟩ (.int .i64 x)) base (.slice (some ⟨g, 0, none⟩) n cap) vd vo (vl.set i x) D O q aq cq := by
  have hf : Fr (fun b => b = g) w (w.setCell ⟨g, i, none⟩ (.int .i64 x)) := Fr.set' (D := fun b => b = g) (Fr.of_below (Below.refl _ _)) ⟨g, i, none⟩ rfl _
  have hs : (w.setCell ⟨g, i, none⟩ (.int .i64 x)).heap.size = w.heap.size := by simp [World.setCell]
  refine ⟨h.v.set_ i x, num_fr h.d hf (fun b hb e => h.nvd g rfl (by rw [← e]; exact hb)), num_fr h.o hf (fun b hb e => h.nvo g rfl (by rw [← e]; exact hb)), ?_, h.nvd, h.nvo, h.ndo⟩
  obtain ⟨Sq, h1, h2⟩ := h.q
  exact ⟨Sq, h1.fr hf (fun b hb e => (h2 b hb).2.2.1 (by rw [e]; rfl)), fun b hb => ⟨(h2 b hb).1, by rw [hs]; exact (h2 b hb).2.1, (h2 b hb).2.2⟩⟩
/-- Another queue. -/
theorem RsAt.newQ {vq : Value} {q' : List Int} (h : RsAt w base vv vd vo vl D O q aq cq) (hb : Below w.heap.size w w') (hbase : base ≤ w.heap.size) (hr : NumRow w' w.heap.size vq q') (hi : ∀ x ∈ q', i64ok x) : ∃ aq' cq', vq = .slice aq' q'.length cq' ∧ RsAt w' base vv vd vo vl D O q' aq' cq' := by
  obtain ⟨a, c, rfl, hia⟩ := hr.at hi
  have h2 := h.below hb
  refine ⟨a, c, rfl, h2.v, h2.d, h2.o, ⟨_, hia.lim, fun b hs => ⟨by omega, hs.2, fun e => ?_, fun e => ?_, fun e => ?_⟩⟩, h.nvd, h.nvo, h.ndo⟩
  · have := (World.ownsRow.lt h.v b e).2; omega
  · have := (World.ownsRow.lt h.d b e).2; omega
  · have := (World.ownsRow.lt h.o b e).2; omega
/-- The queue without its first. -/
theorem RsAt.tail {k : Int} {b o : Nat} (h : RsAt w base vv vd vo vl D O (k :: q) (some ⟨b, o, none⟩) cq) : RsAt w base vv vd vo vl D O q (some ⟨b, o + 1, none⟩) (cq - 1) := by
  obtain ⟨Sq, h1, h2⟩ := h.q
  refine ⟨h.v, h.d, h.o, ⟨Sq, ⟨?_, ?_, fun v hv => h1.2.2.1 v (by simp [hv]), ?_⟩, h2⟩, h.nvd, h.nvo, h.ndo⟩
  · have := h1.1; simp at this; omega
  · have := h1.2.1; omega
  · rcases h1.2.2.2 with h3 | ⟨b', o', ha, hS, hc⟩
    · cases h3
    · simp only [Option.some.injEq, Addr.mk.injEq, and_true] at ha
      obtain ⟨rfl, rfl⟩ := ha
      refine .inr ⟨b, o + 1, rfl, hS, fun i hi => ?_⟩
      have := hc (i + 1) (by simp; omega)
      rw [show o + 1 + i = o + (i + 1) by omega]
      simpa using this
theorem RsAt.tail0 {k : Int} {b o : Nat} (h : RsAt w base vv vd vo vl D O (k :: q) (some ⟨b, o, none⟩) cq) (hc : cq - 1 = 0) : RsAt w base vv vd vo vl D O q (some ⟨b, o, none⟩) 0 := by
  obtain ⟨Sq, h1, h2⟩ := h.q
  have h3 := h1.1
  have hq : q = [] := List.length_eq_zero_iff.1 (by simp at h3; omega)
  subst hq
  exact ⟨h.v, h.d, h.o, ⟨Sq, IntsAt.nil (by omega), h2⟩, h.nvd, h.nvo, h.ndo⟩
theorem RsAt.head {k : Int} (h : RsAt w base vv vd vo vl D O (k :: q) aq cq) : ∃ b o, aq = some ⟨b, o, none⟩ ∧ w.cell? ⟨b, o, none⟩ = some (.int .i64 k) ∧ q.length + 1 ≤ cq ∧ cq ≤ 9223372036854775807 := by
  obtain ⟨Sq, h1, h2⟩ := h.q
  rcases h1.2.2.2 with h3 | ⟨b', o', ha, hS, hc⟩
  · cases h3
  · have := hc 0 (by simp)
    have h4 := h1.1
    simp at h4
    exact ⟨b', o', ha, by simpa using this, h4, h1.2.1⟩
end
end Go.Proofs.Ytklmpagpkeffjaa

/- bounds of what BuildAll and CircleOf answer (pure) -/
namespace Go.Proofs.Ytklmpagpkeffjaa

theorem cyc_bd {ch : Int → List Int} {ok : Int → Bool} {P : Int → Prop} (hx : ∀ k j, nxt ch ok k = some j → P j) : ∀ (f : Nat) (U : List Int) (k : Int), (∀ x ∈ U, P x) → P k → (∀ x ∈ cyc ch ok f U k, P x) ∧ (cyc ch ok f U k).length ≤ U.length + f
  | 0, U, k, _, _ => by unfold cyc; simp
  | f + 1, U, k, hU, hk => by
    unfold cyc
    split
    · exact ⟨fun x h => hU x (List.mem_of_mem_drop h), by rw [List.length_drop]; omega⟩
    · split
      · rename_i j hj
        obtain ⟨h1, h2⟩ := cyc_bd hx f (U ++ [k]) j (fun x h => by
          rcases List.mem_append.1 h with h | h
          · exact hU x h
          · rw [List.mem_singleton.1 h]; exact hk) (hx k j hj)
        exact ⟨h1, by rw [List.length_append, List.length_singleton] at h2; omega⟩
      · exact ⟨by simp, by simp⟩

theorem sh_len {s : Sh} (h : s.ok = true) : s.m.length ≤ 10 := by
  unfold Sh.ok at h
  simp only [Bool.and_eq_true, decide_eq_true_eq] at h
  omega

theorem coL_bd (s : Sh) (l : List Int) (key : Int) : (∀ x ∈ coL s l key, 0 ≤ x ∧ x < 10) ∧ (coL s l key).length ≤ 11 := by
  unfold coL
  split
  · rename_i hb
    unfold coB at hb
    rw [Bool.and_eq_true, Bool.and_eq_true, decide_eq_true_eq] at hb
    obtain ⟨⟨hin, hk⟩, _⟩ := hb
    obtain ⟨hok, _, _⟩ := inOk_of hin
    have hn := sh_len hok
    have hg := gr_S hok l
    have hP : ∀ j, okS s l j = false → 0 ≤ j ∧ j < 10 := by
      intro j hj
      have hd : (fun k => !s.mdI k) j = false := by
        cases hd : (fun k => !s.mdI k) j
        · rfl
        · rw [hg.d0ok j hd] at hj; cases hj
      have := hg.inn j hd
      omega
    obtain ⟨h1, h2⟩ := cyc_bd (ch := chS s l) (ok := okS s l) (P := fun j => 0 ≤ j ∧ j < 10) (fun k j hj => hP j (nxt_some hj).2) (s.m.length + 1 - 0) [] key (by simp) (by omega)
    unfold circ
    exact ⟨h1, by simpa using Nat.le_trans h2 (by simp; omega)⟩
  · exact ⟨by simp, by simp⟩

theorem baL_bd (s : Sh) (l : List Int) : (∀ x ∈ baL s l, 0 ≤ x ∧ x ≤ 96) ∧ (baL s l).length ≤ 10 := by
  unfold baL
  split
  · rename_i hb
    unfold baB at hb
    rw [Bool.and_eq_true] at hb
    obtain ⟨hin, _⟩ := hb
    have hn := sh_len (inOk_of hin).1
    unfold baVs
    refine ⟨fun x hx => ?_, by simpa using hn⟩
    obtain ⟨i, _, rfl⟩ := List.mem_map.1 hx
    exact vsS_bd hin _
  · exact ⟨by simp, by simp⟩
end Go.Proofs.Ytklmpagpkeffjaa

/- an order that fits: what is asked of each of its keys; plain words, no program -/
namespace Go.Proofs.Ytklmpagpkeffjaa
open Go.RowKit

/-- What is asked of the key k behind the keys pre. -/
def ofOne (s : Sh) (vs : Int → Int) (pre : List Int) (k : Int) : Bool := s.mdI k && (!decide (k ∈ pre) && ((usesL ((s.tkI k).kys vs)).filter s.mdI).all (fun u => decide (u ∈ pre)))
def ofTo (s : Sh) (vs : Int → Int) (o : List Int) (n : Nat) : Bool := (List.range n).all fun i => ofOne s vs (o.take i) (o.getD i 0)
noncomputable def ofB (s : Sh) (l o : List Int) : Bool := baB s l && ofTo s (vf (baL s l)) o o.length

theorem ofTo_zero (s : Sh) (vs : Int → Int) (o : List Int) : ofTo s vs o 0 = true := rfl
theorem ofTo_succ (s : Sh) (vs : Int → Int) (o : List Int) {k : Nat} (hk : k < o.length) : ofTo s vs o (k + 1) = (ofTo s vs o k && ofOne s vs (o.take k) o[k]) := by
  unfold ofTo
  rw [List.range_succ, List.all_append, List.all_cons, List.all_nil, Bool.and_true, List.getD_eq_getElem?_getD, List.getElem?_eq_getElem hk]
  rfl
theorem ofTo_false {s : Sh} {vs : Int → Int} {o : List Int} {k n : Nat} (h : k < n) (hn : n ≤ o.length) (ho : ofOne s vs (o.take k) (o[k]'(by omega)) = false) : ofTo s vs o n = false := by
  cases hx : ofTo s vs o n
  · rfl
  · unfold ofTo at hx
    rw [List.all_eq_true] at hx
    have := hx k (List.mem_range.2 h)
    rw [List.getD_eq_getElem?_getD, List.getElem?_eq_getElem (by omega)] at this
    simp only [Option.getD_some] at this
    rw [ho] at this
    cases this

theorem ok_of_ba {s : Sh} {l : List Int} (h : baB s l = true) : s.ok = true := by
  unfold baB at h
  rw [Bool.and_eq_true] at h
  exact (inOk_of h.1).1
theorem tkI_ok {s : Sh} {l : List Int} (h : baB s l = true) (k : Int) : ((s.tkI k).ok && vok (baL s l)) = true := by
  obtain ⟨h1, h2⟩ := Sh.tk_fit (ok_of_ba h) k.toNat
  have h3 := baL_bd s l
  rw [Bool.and_eq_true]
  refine ⟨by unfold Sh.tkI; simp [T.ok]; exact ⟨h1, h2⟩, ?_⟩
  unfold vok
  rw [Bool.and_eq_true, decide_eq_true_eq, List.all_eq_true]
  refine ⟨h3.2, fun x hx => ?_⟩
  have := h3.1 x hx
  simp [vin]
  omega
/-- Keys of an order that fits are keys. -/
theorem ofTo_hk {s : Sh} {vs : Int → Int} {o : List Int} (h : ofTo s vs o o.length = true) : hkB s o = true := by
  unfold hkB
  rw [List.all_eq_true]
  intro x hx
  obtain ⟨i, hi, rfl⟩ := List.getElem_of_mem hx
  rw [decide_eq_true_eq]
  refine mdI_bd ?_
  cases hm : s.mdI o[i]
  · have : ofTo s vs o o.length = false := ofTo_false hi (Nat.le_refl _) (by unfold ofOne; rw [hm]; rfl)
    rw [h] at this; cases this
  · rfl
end Go.Proofs.Ytklmpagpkeffjaa

/- spec.l4Keys, spec.OrderFits -/
namespace Go.Proofs.Ytklmpagpkeffjaa
open Go.RowKit

theorem IntsAt.upto {w : World} {S : Nat → Prop} {l : List Int} {a : Option Addr} {c : Nat} (h : IntsAt w S l a c) (i : Nat) : IntsAt w S (l.take i) a c := by
  obtain ⟨h1, h2, h3, h4⟩ := h
  refine ⟨by rw [List.length_take]; omega, h2, fun v hv => h3 v (List.mem_of_mem_take hv), ?_⟩
  rcases h4 with h4 | ⟨b, o, ha, hS, hc⟩
  · exact .inl (by rw [h4]; simp)
  · refine .inr ⟨b, o, ha, hS, fun j hj => ?_⟩
    rw [List.getElem_take]
    exact hc j (by rw [List.length_take] at hj; omega)

/-- They are keys of a sheet. -/
def kyB (s : Sh) (ks : List Int) : Bool := hkB s ks && s.ok

set_option maxRecDepth 100000 in
set_option maxHeartbeats 2000000 in
theorem l4Keys_any (s : Sh) (ks : List Int) (w : World) (S S' : Nat → Prop) (a : Option Addr) (c : Nat) (a' : Option Addr) (c' : Nat) (ak : Option Addr) (ck : Nat) (h : ShAt w S s a c a' c') (hn : nodesL s.t ≤ 1048576) (hks : IntsAt w S' ks ak ck) :
    Calls Try.prog 57 #[.agg #[.slice a s.m.length c, .slice a' s.t.length c'], .slice ak ks.length ck] w fun e w' => e = .returned (.bool (kyB s ks)) ∧ Below w.heap.size w w' := by
  have K0 := Lib.hid (Ks.start (ty := 26) h)
  have HI := Lib.hid (hks.alloc (.cells #[.slice a s.m.length c, .slice a' s.t.length c'] 26))
  have hkl : ks.length ≤ 9223372036854775807 := by have := hks.1; have := hks.2.1; omega
  have hlm : s.m.length ≤ 9223372036854775807 := by have := h.1.1; have := h.1.2.1; omega
  have HN := Lib.hid hn
  obtain ⟨KL, hKL⟩ : ∃ n, n = ks.length := ⟨_, rfl⟩
  have HKL := Lib.hid hKL
  rw [← hKL] at hkl ⊢
  obtain ⟨r, hr⟩ : ∃ r, r = kyB s ks := ⟨_, rfl⟩
  have HR := Lib.hid hr
  rw [← hr]
  clear h hks hKL hr hn
  go_enter Try.func57, Try.ntmps57
  go_wp2_with fail
  go_loopw [5] (fun i wr => ∃ k : Nat, k ≤ KL ∧ i = .int .i64 k ∧ (ks.take k).all (fun k => decide (0 ≤ k ∧ k < s.m.length)) = true ∧ Ks S s a c a' c' 26 w wr ∧ IntsAt wr S' ks ak ck) (fun i _ => KL - (intOf i).toNat)
  case atStart => exact ⟨0, by omega, rfl, by simp, K0.out, HI.out⟩
  case round =>
    obtain ⟨k, hk, rfl, hall, hK, hI⟩ := hrel
    have HA := Lib.hid hall
    have HK := Lib.hid (And.intro hK hI)
    obtain ⟨x0, x1⟩ := hK.box
    clear hall hK hI K0 HI
    by_cases hlt : k < KL
    · have hlt2 : k < ks.length := by have := HKL.out; omega
      obtain ⟨b, o, rfl, hbl, _, hc⟩ := HK.out.2.get (Below.refl _ _) hlt2
      obtain ⟨key, hkey⟩ : ∃ key, key = ks[k] := ⟨_, rfl⟩
      rw [← hkey] at hc
      have HKEY := Lib.hid hkey
      obtain ⟨p, hp⟩ : ∃ p, p = decide (0 ≤ key ∧ key < s.m.length) := ⟨_, rfl⟩
      have hdk : decide ((0 : Int) ≤ key ∧ key ≤ (s.m.length : Int) - 1) = p := by
        rw [hp]
        by_cases h : 0 ≤ key ∧ key < s.m.length
        · rw [decide_eq_true h, decide_eq_true (by omega)]
        · rw [decide_eq_false h, decide_eq_false (by omega)]
      have hwr : IntKind.i64.wrap ((s.m.length : Int) - 1) = (s.m.length : Int) - 1 := IntWalk.i64_in _ ⟨by omega, by omega⟩
      rw [← hwr] at hdk
      have HD := Lib.hid hdk
      have HP := Lib.hid hp
      have HL2 := Lib.hid hlt2
      clear hkey hp hdk hwr
      go_wp2_with fail
      go_region_with (go_at_call 102; refine (in_any _ _ _ _).mono ?_; rw [HD.out]; rintro e w9 ⟨rfl, rfl⟩)
      all_goals
        have K1 := Lib.hid (And.intro (HK.out.1.drewN 1) (HK.out.2.drewN 1))
        cases p
        · go_wp2_with fail
          go_ret
          exact ⟨ret_bool (by rw [HR.out]; unfold kyB hkB; rw [all_fls HL2.out (by rw [← HKEY.out]; exact HP.out.symm)]; rfl), below_drewN HK.out.1.done _⟩
        · go_wp2_with fail
          go_roundw
          case rel => exact ⟨k + 1, by omega, by go_num, by rw [all_tk HL2.out, HA.out, ← HKEY.out, ← HP.out]; rfl, HK.out.1.drewN _, HK.out.2.drewN _⟩
          case measure => simp [intOf]; omega
    · have hall : hkB s ks = true := by
        have := HA.out
        rwa [List.take_of_length_le (by have := HKL.out; omega)] at this
      have hrk : s.ok = r := by rw [HR.out]; unfold kyB; rw [hall]; rfl
      have HALL := Lib.hid hrk
      clear hall hrk
      go_wp2_with fail
      refine (specSheetOk_any s _ S a c a' c' HK.out.1.2 HN.out).mono ?_
      rintro e w1 ⟨rfl, hb⟩
      rw [HALL.out]
      have K1 := Lib.hid (HK.out.1.step hb)
      clear hb x0 x1
      go_wp2_with fail
      go_ret
      exact ⟨rfl, K1.out.done⟩

set_option maxRecDepth 100000 in
set_option maxHeartbeats 4000000 in
theorem specFits_any (s : Sh) (l o : List Int) (w : World) (S0 S1 S2 : Nat → Prop) (a : Option Addr) (c : Nat) (a' : Option Addr) (c' : Nat) (ai : Option Addr) (ci : Nat) (ao : Option Addr) (co : Nat) (h0 : ShAt w S0 s a c a' c') (hn : nodesL s.t ≤ 1048576) (hl : IntsAt w S1 l ai ci) (ho : IntsAt w S2 o ao co) :
    Calls Try.prog 31 #[.agg #[.slice a s.m.length c, .slice a' s.t.length c'], .slice ai l.length ci, .slice ao o.length co] w fun e w' => e = .returned (.bool (ofB s l o)) ∧ Below w.heap.size w w' := by
  have K0 := Lib.hid (Ks.start (ty := 26) h0)
  have L0 := Lib.hid (hl.alloc (.cells #[.slice a s.m.length c, .slice a' s.t.length c'] 26))
  have O0 := Lib.hid (ho.alloc (.cells #[.slice a s.m.length c, .slice a' s.t.length c'] 26))
  have hol : o.length ≤ 9223372036854775807 := by have := ho.1; have := ho.2.1; omega
  have hoc : o.length ≤ co ∧ co ≤ 9223372036854775807 := ⟨ho.1, ho.2.1⟩
  have HN := Lib.hid hn
  obtain ⟨OL, hOL⟩ : ∃ n, n = o.length := ⟨_, rfl⟩
  have HOL := Lib.hid hOL
  rw [← hOL] at hol hoc ⊢
  obtain ⟨r, hr⟩ : ∃ r, r = ofB s l o := ⟨_, rfl⟩
  have HR := Lib.hid hr
  rw [← hr]
  clear h0 hl ho hOL hr hn
  obtain ⟨x0, x1⟩ := K0.out.box
  cases hba : baB s l
  · have HB := Lib.hid hba
    clear hba
    go_enter Try.func31, Try.ntmps31
    go_wp2_with fail
    refine (specAll_any s l _ S0 _ a c a' c' ai ci K0.out.2 HN.out L0.out).mono ?_
    rintro e w1 ⟨hb, v, rfl, _⟩
    rw [HB.out]
    have K1 := Lib.hid (K0.out.step hb)
    clear hb x0 x1
    go_wp2_with fail
    go_ret
    exact ⟨ret_bool (by rw [HR.out]; unfold ofB; rw [HB.out]; rfl), K1.out.done⟩
  · have HB := Lib.hid hba
    have hrr : r = ofTo s (vf (baL s l)) o o.length := by rw [HR.out]; unfold ofB; rw [hba]; rfl
    have HRR := Lib.hid hrr
    have hkk : kyB s o = hkB s o := by unfold kyB; rw [ok_of_ba hba, Bool.and_true]
    have HKK := Lib.hid hkk
    clear hba hrr hkk
    go_enter Try.func31, Try.ntmps31
    go_wp2_with fail
    refine (specAll_any s l _ S0 _ a c a' c' ai ci K0.out.2 HN.out L0.out).mono ?_
    rintro e w1 ⟨hb, v, rfl, hrow⟩
    rw [HB.out]
    obtain ⟨av, cv, rfl, hia⟩ := hrow.at (fun x hx => by have := (baL_bd s l).1 x hx; unfold i64ok; omega)
    have K1 := Lib.hid (K0.out.step hb)
    have O1 := Lib.hid (O0.out.below hb)
    have V1 := Lib.hid hia
    clear hb hrow hia x0 x1 K0 L0 O0
    obtain ⟨x0, x1⟩ := K1.out.box
    go_wp2_with fail
    have hkc := l4Keys_any s o w1 _ _ a c a' c' ao co K1.out.2 HN.out O1.out
    rw [← HOL.out] at hkc
    refine hkc.mono ?_
    clear hkc
    rintro e w2 ⟨rfl, hb⟩
    rw [HKK.out]
    have K2 := Lib.hid (K1.out.step hb)
    have O2 := Lib.hid (O1.out.below hb)
    have V2 := Lib.hid (V1.out.below hb)
    clear hb x0 x1 K1 O1 V1
    cases hkb : hkB s o
    · have hrf : r = false := by
        rw [HRR.out]
        cases hx : ofTo s (vf (baL s l)) o o.length
        · rfl
        · rw [ofTo_hk hx] at hkb; cases hkb
      have HRF := Lib.hid hrf
      clear hkb hrf
      go_wp2_with fail
      go_ret
      exact ⟨ret_bool HRF.out.symm, K2.out.done⟩
    · have HKB := Lib.hid hkb
      clear hkb
      go_wp2_with fail
      go_loopw [9] (fun i wr => ∃ k : Nat, k ≤ OL ∧ i = .int .i64 k ∧ ofTo s (vf (baL s l)) o k = true ∧ Ks S0 s a c a' c' 26 w wr ∧ IntsAt wr S2 o ao co ∧ IntsAt wr (fun b => w.heap.size + 1 ≤ b) (baL s l) av cv) (fun i _ => OL - (intOf i).toNat)
      case atStart => exact ⟨0, by omega, rfl, ofTo_zero _ _ _, K2.out, O2.out, V2.out.weaken (fun b hb => by simpa using hb)⟩
      case round =>
        obtain ⟨k, hk, rfl, hall, hK, hO, hV⟩ := hrel
        have H3 := Lib.hid (And.intro hK (And.intro hO hV))
        have HA := Lib.hid hall
        obtain ⟨x0, x1⟩ := hK.box
        clear hall hK hO hV K2 O2 V2
        by_cases hlt : k < OL
        · have hlt2 : k < o.length := by have := HOL.out; omega
          obtain ⟨b, ob, rfl, hbl, _, hc⟩ := H3.out.2.1.get (Below.refl _ _) hlt2
          obtain ⟨key, hkey⟩ : ∃ key, key = o[k] := ⟨_, rfl⟩
          have hkr : 0 ≤ key ∧ key < s.m.length := by
            have h := HKB.out
            unfold hkB at h
            rw [List.all_eq_true] at h
            have h := h o[k] (List.getElem_mem _)
            rw [decide_eq_true_eq] at h
            rw [hkey]; exact h
          obtain ⟨kn, rfl⟩ : ∃ kn : Nat, key = kn := ⟨key.toNat, by omega⟩
          have hkn : kn < s.m.length := by omega
          rw [← hkey] at hc
          have HKEY := Lib.hid hkey
          have HL2 := Lib.hid hlt2
          have HSUC := Lib.hid (ofTo_succ s (vf (baL s l)) o hlt2)
          have HNO := Lib.hid (show ofOne s (vf (baL s l)) (o.take k) (kn : Int) = false → r = false from fun h => by
            rw [HRR.out]
            exact ofTo_false hlt2 (Nat.le_refl _) (by rw [← hkey]; exact h))
          have HTL := Lib.hid (show s.t.length = s.m.length from (Sh.ok_iff.1 (ok_of_ba HB.out)).2.1)
          have h10 : s.m.length ≤ 10 := (Sh.ok_iff.1 (ok_of_ba HB.out)).1
          clear hkey hkr
          obtain ⟨bm, om, ha, hbml, hcm⟩ := md_cell H3.out.1.2 hkn
          have HAA := Lib.hid ha
          clear ha
          obtain ⟨mk, hmk⟩ : ∃ mk, mk = s.mdI (kn : Int) := ⟨_, rfl⟩
          rw [← hmk] at hcm
          have HMK := Lib.hid hmk
          clear hmk
          obtain rfl := HAA.out
          have htake : (o.take k).length = k := by rw [List.length_take]; omega
          have HTK := Lib.hid htake
          clear htake
          cases mk
          · go_wp2_with fail
            go_ret
            exact ⟨ret_bool (HNO.out (by unfold ofOne; rw [← HMK.out]; rfl)).symm, H3.out.1.done⟩
          · obtain ⟨p, hp⟩ : ∃ p, p = decide ((kn : Int) ∈ o.take k) := ⟨_, rfl⟩
            have HP := Lib.hid hp
            clear hp
            have hhas : ∀ (n : Int) (w' : World), IntsAt w' S2 o (some ⟨b, ob, none⟩) co → Calls Try.prog 59 #[.slice (some ⟨b, ob, none⟩) k co, .int .i64 n] w' fun e w'' => e = .returned (.bool (decide (n ∈ o.take k))) ∧ w' = w'' := fun n w' h => by
              have h2 := has_any w' S2 (o.take k) (some ⟨b, ob, none⟩) co n (h.upto k)
              rw [HTK.out] at h2
              exact h2
            have HHAS := Lib.hid hhas
            clear hhas
            go_wp2_with fail
            refine (HHAS.out (kn : Int) wr H3.out.2.1).mono ?_
            rintro e w4 ⟨rfl, rfl⟩
            rw [← HP.out]
            cases p
            · have hkt : kn < s.t.length := by have := HTL.out; omega
              obtain ⟨b', o', a2, c2, rfl, hbl', hSb', e0, e1, e2, hat, _, _⟩ := H3.out.1.2.2.elem (Below.refl _ _) hkt
              have htk : s.t[kn] = s.tkI (kn : Int) := by unfold Sh.tkI; rw [Int.toNat_natCast]; exact (getD_len hkt).symm
              rw [htk] at hat e0 e1 e2
              have HAT := Lib.hid hat
              clear hat htk
              have hvk := tkI_ok HB.out (kn : Int)
              rw [Bool.and_eq_true] at hvk
              have hfn : (s.tkI (kn : Int)).fit = true ∧ (s.tkI (kn : Int)).nodes ≤ 15 := by simpa [T.ok] using hvk.1
              have HVK := Lib.hid (And.intro hvk.2 hfn)
              have hks := (kys_ok (tkI_ok HB.out (kn : Int)))
              obtain ⟨ks, hkss⟩ : ∃ ks, ks = (s.tkI (kn : Int)).kys (vf (baL s l)) := ⟨_, rfl⟩
              rw [← hkss] at hks
              have HKS := Lib.hid (And.intro hkss hks)
              clear hvk hfn hkss hks
              go_wp2_with fail
              refine (run_any (baL s l) HVK.out.1 (s.tkI (kn : Int)) HVK.out.2.1 (by have := HVK.out.2.2; omega) wr _ _ a2 av c2 cv HAT.out H3.out.2.2).mono ?_
              rintro e w5 ⟨vo, rfl, hrow, hb⟩
              rw [← HKS.out.1] at hrow
              obtain ⟨af, cf, rfl, hfe⟩ := hrow.at
              have H5 := Lib.hid (And.intro (H3.out.1.step hb) (And.intro (H3.out.2.1.below hb) (H3.out.2.2.below hb)))
              have HF := Lib.hid hfe
              clear hb hrow hfe x0 x1 e0 e1 e2 hc hcm HAT
              go_wp2_with fail
              refine (uses_any (vf (baL s l)) w5 _ ks af cf HF.out HKS.out.2.1 (by have := HKS.out.2.2; omega)).mono ?_
              rintro e w6 ⟨v, rfl, hrow, hb⟩
              obtain ⟨us, hus⟩ : ∃ us, us = usesL ks := ⟨_, rfl⟩
              rw [← hus] at hrow
              have hul : us.length ≤ 15 := by
                rw [hus]
                have := usesL_len ks
                have := HKS.out.2.2
                omega
              have hub : ∀ x ∈ us, 0 ≤ x ∧ x ≤ 9 := fun x hx => by
                rw [hus] at hx
                exact HKS.out.2.1 x (usesL_mem.1 hx)
              obtain ⟨au, cu, rfl, hiu⟩ := hrow.at (fun x hx => by have := hub x hx; unfold i64ok; omega)
              have hone : ofOne s (vf (baL s l)) (o.take k) (kn : Int) = (us.filter s.mdI).all (fun u => decide (u ∈ o.take k)) := by
                unfold ofOne
                rw [← HMK.out, ← HP.out, ← HKS.out.1, ← hus]
                rfl
              have HONE := Lib.hid hone
              have HUB := Lib.hid hub
              have H6 := Lib.hid (And.intro (H5.out.1.step hb) (And.intro (H5.out.2.1.below hb) (And.intro (H5.out.2.2.below hb) hiu)))
              obtain ⟨UL, hUL⟩ : ∃ n, n = us.length := ⟨_, rfl⟩
              have HUL := Lib.hid hUL
              rw [← hUL] at hul ⊢
              clear hb hrow hus hub hiu hone hUL H5 H3 HF
              go_wp2_with fail
              go_loopw [14] (fun i wq => ∃ q : Nat, q ≤ UL ∧ i = .int .i64 q ∧ (us.take q).all (fun u => !s.mdI u || decide (u ∈ o.take k)) = true ∧ Ks S0 s (some ⟨bm, om, none⟩) c (some ⟨b', o', none⟩) c' 26 w wq ∧ IntsAt wq S2 o (some ⟨b, ob, none⟩) co ∧ IntsAt wq (fun b => w.heap.size + 1 ≤ b) (baL s l) av cv ∧ IntsAt wq (fun b => w5.heap.size ≤ b) us au cu) (fun i _ => UL - (intOf i).toNat)
              case atStart => exact ⟨0, by omega, rfl, by simp, H6.out.1, H6.out.2.1, H6.out.2.2.1, H6.out.2.2.2⟩
              case round =>
                obtain ⟨q, hq, rfl, hqa, hK, hO, hV, hU⟩ := hrel
                have H7 := Lib.hid (And.intro hK (And.intro hO (And.intro hV hU)))
                have HQA := Lib.hid hqa
                obtain ⟨x0, x1⟩ := hK.box
                clear hqa hK hO hV hU H6
                by_cases hlq : q < UL
                · have hlq2 : q < us.length := by have := HUL.out; omega
                  obtain ⟨bu, ou, hau, hbul, _, hcu⟩ := H7.out.2.2.2.get (Below.refl _ _) hlq2
                  have HAU := Lib.hid hau
                  clear hau
                  obtain rfl := HAU.out
                  have hxb := HUB.out us[q] (List.getElem_mem _)
                  obtain ⟨x, hx⟩ : ∃ x : Nat, us[q] = (x : Int) := ⟨us[q].toNat, by omega⟩
                  rw [hx] at hcu hxb
                  have HX := Lib.hid hx
                  have HQS := Lib.hid (all_tk (p := fun u => !s.mdI u || decide (u ∈ o.take k)) hlq2)
                  clear hx
                  cases hxm : decide ((x : Int) < (s.m.length : Int))
                  · have hmx : s.mdI (x : Int) = false := by
                      cases hy : s.mdI (x : Int)
                      · rfl
                      · have := mdI_bd hy
                        rw [decide_eq_true this.2] at hxm; cases hxm
                    have hqa : (us.take (q + 1)).all (fun u => !s.mdI u || decide (u ∈ o.take k)) = true := by
                      rw [HQS.out, HQA.out, HX.out, hmx]; rfl
                    have HQ2 := Lib.hid hqa
                    have hx3 : ¬ x < s.m.length := by rw [decide_eq_false_iff_not] at hxm; omega
                    have hx4 : decide (x < s.m.length) = false := decide_eq_false hx3
                    clear hmx hqa
                    go_wp2_with fail
                    go_quiet (fail)
                    revert nq
                    intro n1
                    go_wp2_with fail
                    go_roundw
                    case rel => exact ⟨q + 1, by omega, by go_num, HQ2.out, H7.out.1.drewN _, H7.out.2.1.drewN _, H7.out.2.2.1.drewN _, H7.out.2.2.2.drewN _⟩
                    case measure => simp [intOf]; omega
                  · have hxm2 : x < s.m.length := by
                      rw [decide_eq_true_eq] at hxm; omega
                    have hx4 : decide (x < s.m.length) = true := decide_eq_true hxm2
                    have hkc : k ≤ co := by omega
                    have hkci : (k : Int) ≤ (co : Int) := by omega
                    obtain ⟨bx, ox, hax, hbxl, hcx⟩ := md_cell H7.out.1.2 hxm2
                    obtain ⟨rfl, rfl⟩ : bm = bx ∧ om = ox := by injection hax with hax; injection hax with h1 h2; exact ⟨h1, h2⟩
                    clear hax
                    obtain ⟨mx, hmx⟩ : ∃ mx, mx = s.mdI (x : Int) := ⟨_, rfl⟩
                    rw [← hmx] at hcx
                    have HMX := Lib.hid hmx
                    clear hmx
                    cases mx
                    · have hqa : (us.take (q + 1)).all (fun u => !s.mdI u || decide (u ∈ o.take k)) = true := by
                        rw [HQS.out, HQA.out, HX.out, ← HMX.out]; rfl
                      have HQ2 := Lib.hid hqa
                      clear hqa
                      go_wp2_with fail
                      go_quiet (fail)
                      revert nq
                      intro n1
                      go_wp2_with fail
                      go_roundw
                      case rel => exact ⟨q + 1, by omega, by go_num, HQ2.out, H7.out.1.drewN _, H7.out.2.1.drewN _, H7.out.2.2.1.drewN _, H7.out.2.2.2.drewN _⟩
                      case measure => simp [intOf]; omega
                    · obtain ⟨p2, hp2⟩ : ∃ p2, p2 = decide ((x : Int) ∈ o.take k) := ⟨_, rfl⟩
                      have HP2 := Lib.hid hp2
                      clear hp2
                      have hq : ∀ n, Calls Try.prog 59 #[.slice (some ⟨b, ob, none⟩) k co, .int .i64 (x : Int)] (wr.drewN n) fun e w' => e = .returned (.bool p2) ∧ w' = wr.drewN n := fun n => by
                        rw [HP2.out]
                        exact (HHAS.out (x : Int) _ (H7.out.2.1.drewN n)).mono fun e w' h => ⟨h.1, h.2.symm⟩
                      have HQQ := Lib.hid hq
                      clear hq
                      cases p2
                      · go_wp2_with fail
                        go_quiet ((go_at_call 59; exact Calls.quiet_of_same (HQQ.out _)))
                        revert nq
                        intro n1
                        go_wp2_with fail
                        go_ret
                        have hf : ofOne s (vf (baL s l)) (o.take k) (kn : Int) = false := by
                          rw [HONE.out]
                          cases hy : (us.filter s.mdI).all (fun u => decide (u ∈ o.take k))
                          · rfl
                          · rw [List.all_eq_true] at hy
                            have := hy (x : Int) (List.mem_filter.2 ⟨by rw [← HX.out]; exact List.getElem_mem _, HMX.out.symm⟩)
                            rw [← HP2.out] at this
                            cases this
                        exact ⟨ret_bool (HNO.out hf).symm, below_drewN H7.out.1.done _⟩
                      · have hqa : (us.take (q + 1)).all (fun u => !s.mdI u || decide (u ∈ o.take k)) = true := by
                          rw [HQS.out, HQA.out, HX.out, ← HMX.out, ← HP2.out]; rfl
                        have HQ2 := Lib.hid hqa
                        clear hqa
                        go_wp2_with fail
                        go_quiet ((go_at_call 59; exact Calls.quiet_of_same (HQQ.out _)))
                        revert nq
                        intro n1
                        go_wp2_with fail
                        go_roundw
                        case rel => exact ⟨q + 1, by omega, by go_num, HQ2.out, H7.out.1.drewN _, H7.out.2.1.drewN _, H7.out.2.2.1.drewN _, H7.out.2.2.2.drewN _⟩
                        case measure => simp [intOf]; omega
                · have hall : ofTo s (vf (baL s l)) o (k + 1) = true := by
                    have h := HQA.out
                    rw [List.take_of_length_le (by have := HUL.out; omega)] at h
                    rw [HSUC.out, HA.out, ← HKEY.out, HONE.out, Bool.true_and, List.all_eq_true]
                    intro u hu
                    rw [List.mem_filter] at hu
                    rw [List.all_eq_true] at h
                    have := h u hu.1
                    rw [hu.2] at this
                    simpa using this
                  have HALL := Lib.hid hall
                  clear hall
                  go_wp2_with fail
                  go_roundw
                  case rel => exact ⟨k + 1, by omega, by go_num, HALL.out, H7.out.1, H7.out.2.1, H7.out.2.2.1⟩
                  case measure => simp [intOf]; omega
            · go_wp2_with fail
              go_ret
              exact ⟨ret_bool (HNO.out (by unfold ofOne; rw [← HMK.out, ← HP.out]; rfl)).symm, H3.out.1.done⟩
        · have hall : r = true := by
            have := HA.out
            rw [HRR.out, ← HOL.out]
            obtain rfl : k = OL := by omega
            exact this
          have HALL := Lib.hid hall
          clear hall
          go_wp2_with fail
          go_ret
          exact ⟨ret_bool HALL.out.symm, H3.out.1.done⟩
end Go.Proofs.Ytklmpagpkeffjaa

/- spec.OrderRestart -/
namespace Go.Proofs.Ytklmpagpkeffjaa
open Go.RowKit

theorem num_blk {w : World} {base g n c : Nat} {l : List Int} (h : NumRow w base (.slice (some ⟨g, 0, none⟩) n c) l) : ∃ cs, Blk w g 3 cs := by
  obtain ⟨_, ⟨hx, _⟩ | ⟨gb, cap', cur, hx, _, hh, _⟩⟩ := h
  · cases hx
  · simp only [Value.slice.injEq, Option.some.injEq, Addr.mk.injEq, and_true] at hx
    obtain ⟨rfl, _, _⟩ := hx
    exact ⟨cur, hh⟩
theorem vf_set {vl : List Int} {k : Nat} (hk : k < vl.length) (v x : Int) (h0 : 0 ≤ x) : vf (vl.set k v) x = if x = k then v else vf vl x := by
  unfold vf
  rw [List.length_set]
  by_cases hx : x < vl.length
  · rw [if_pos hx, if_pos hx, List.getD_eq_getElem?_getD, List.getD_eq_getElem?_getD, List.getElem?_set]
    by_cases he : x = k
    · subst he
      simp [hk]
    · rw [if_neg (by omega), if_neg he]
  · rw [if_neg hx, if_neg hx, if_neg (by omega)]

/-- The values, as far as keys are done. -/
def ValsOk (s : Sh) (l vl D : List Int) : Prop := vl.length = l.length ∧ ∀ x, 0 ≤ x → vf vl x = if dnS s D x = true then vsS s l x else vf l x

set_option maxRecDepth 100000 in
set_option maxHeartbeats 2000000 in
theorem specRestart_any (s : Sh) (l ks : List Int) (w : World) (S0 S1 S2 : Nat → Prop) (a : Option Addr) (c : Nat) (a' : Option Addr) (c' : Nat) (ai : Option Addr) (ci : Nat) (ak : Option Addr) (ck : Nat) (h0 : ShAt w S0 s a c a' c') (hn : nodesL s.t ≤ 1048576) (hl : IntsAt w S1 l ai ci) (hk0 : IntsAt w S2 ks ak ck) (hkl : ks.length ≤ 1048576) :
    Calls Try.prog 28 #[.agg #[.slice a s.m.length c, .slice a' s.t.length c'], .slice ai l.length ci, .slice ak ks.length ck] w (OrP (rsB s l ks) (rsL s l ks) w) := by
  have K0 := Lib.hid ((Ks.start (ty := 26) h0.lim).alloc (.cells #[] 3))
  have L0 := Lib.hid ((hl.alloc (.cells #[.slice a s.m.length c, .slice a' s.t.length c'] 26)).alloc (.cells #[] 3))
  have Q0 := Lib.hid ((hk0.lim.alloc (.cells #[.slice a s.m.length c, .slice a' s.t.length c'] 26)).alloc (.cells #[] 3))
  have ho0 := rowN_new (w.alloc (.cells #[.slice a s.m.length c, .slice a' s.t.length c'] 26))
  simp only [World.size_alloc] at ho0
  have HO0 := Lib.hid ho0
  have HNN := Lib.hid hn
  obtain ⟨KL, hKL⟩ : ∃ n, n = ks.length := ⟨_, rfl⟩
  have HKL := Lib.hid hKL
  rw [← hKL] at hkl ⊢
  obtain ⟨LL, hLL⟩ : ∃ n, n = l.length := ⟨_, rfl⟩
  have HLL := Lib.hid hLL
  rw [← hLL]
  obtain ⟨b, hb⟩ : ∃ b, b = rsB s l ks := ⟨_, rfl⟩
  obtain ⟨L, hL⟩ : ∃ L, L = rsL s l ks := ⟨_, rfl⟩
  have HNO := Lib.hid (show ∀ (w' : World) (v : Value), rsB s l ks = false → Below w.heap.size w w' → NumRow w' w.heap.size v [] → OrP b L w (.returned (.tuple #[v, .bool false])) w' from fun w' v h1 h2 h3 => by rw [hb, hL]; exact OrP.rs_no h1 h2 h3)
  have HYES := Lib.hid (show ∀ (w' : World) (v : Value) (o : List Int) (m : Nat), rsB s l ks = true → Ends emR (chS s l) (d0S s) ks o m → Below w.heap.size w w' → NumRow w' w.heap.size v o → OrP b L w (.returned (.tuple #[v, .bool true])) w' from fun w' v o m h1 h2 h3 h4 => by rw [hb, hL]; exact OrP.rs_yes h1 h2 h3 h4)
  rw [← hb, ← hL]
  clear h0 hl hk0 hKL hLL hb hL ho0 hn
  obtain ⟨x0, x1⟩ := K0.out.box
  cases hin : inOk s l
  · have HI := Lib.hid hin
    clear hin
    go_enter Try.func28, Try.ntmps28
    go_wp2_with fail
    have hc := specInputs_any s l _ _ _ a c a' c' ai ci K0.out.2 HNN.out L0.out
    rw [← HLL.out] at hc
    refine hc.mono ?_
    clear hc
    rintro e w1 ⟨rfl, hb⟩
    rw [HI.out]
    have K1 := Lib.hid (K0.out.step hb)
    have O1 := Lib.hid (ElRow.below (f := Value.int .i64) (e := 3) HO0.out hb)
    clear hb x0 x1
    go_wp2_with fail
    go_ret2
    exact HNO.out _ _ (by unfold rsB; rw [HI.out]; rfl) K1.out.done (ownsRow_low O1.out (by omega))
  cases hkb : kyB s ks
  · have HI := Lib.hid hin
    have HK := Lib.hid hkb
    clear hin hkb
    go_enter Try.func28, Try.ntmps28
    go_wp2_with fail
    have hc := specInputs_any s l _ _ _ a c a' c' ai ci K0.out.2 HNN.out L0.out
    rw [← HLL.out] at hc
    refine hc.mono ?_
    clear hc
    rintro e w1 ⟨rfl, hb⟩
    rw [HI.out]
    have K1 := Lib.hid (K0.out.step hb)
    have Q1 := Lib.hid (Q0.out.below hb)
    have O1 := Lib.hid (ElRow.below (f := Value.int .i64) (e := 3) HO0.out hb)
    clear hb x0 x1
    obtain ⟨x0, x1⟩ := K1.out.box
    go_wp2_with fail
    have hc := l4Keys_any s ks w1 _ _ a c a' c' ak ck K1.out.2 HNN.out Q1.out
    rw [← HKL.out] at hc
    refine hc.mono ?_
    clear hc
    rintro e w2 ⟨rfl, hb⟩
    rw [HK.out]
    have K2 := Lib.hid (K1.out.step hb)
    have O2 := Lib.hid (ElRow.below (f := Value.int .i64) (e := 3) O1.out hb)
    clear hb x0 x1
    go_wp2_with fail
    go_ret2
    have hno : hkB s ks = false := by
      have h := HK.out
      unfold kyB at h
      rw [(inOk_of HI.out).1, Bool.and_true] at h
      exact h
    exact HNO.out _ _ (by unfold rsB; rw [hno]; simp) K2.out.done (ownsRow_low O2.out (by omega))
  have hhk : hkB s ks = true := by
    unfold kyB at hkb
    rw [Bool.and_eq_true] at hkb
    exact hkb.1
  cases hsf : safeB s
  · have HI := Lib.hid hin
    have HK := Lib.hid hkb
    have HSF := Lib.hid hsf
    clear hin hkb hsf hhk
    go_enter Try.func28, Try.ntmps28
    go_wp2_with fail
    have hc := specInputs_any s l _ _ _ a c a' c' ai ci K0.out.2 HNN.out L0.out
    rw [← HLL.out] at hc
    refine hc.mono ?_
    clear hc
    rintro e w1 ⟨rfl, hb⟩
    rw [HI.out]
    have K1 := Lib.hid (K0.out.step hb)
    have Q1 := Lib.hid (Q0.out.below hb)
    have O1 := Lib.hid (ElRow.below (f := Value.int .i64) (e := 3) HO0.out hb)
    clear hb x0 x1
    obtain ⟨x0, x1⟩ := K1.out.box
    go_wp2_with fail
    have hc := l4Keys_any s ks w1 _ _ a c a' c' ak ck K1.out.2 HNN.out Q1.out
    rw [← HKL.out] at hc
    refine hc.mono ?_
    clear hc
    rintro e w2 ⟨rfl, hb⟩
    rw [HK.out]
    have K2 := Lib.hid (K1.out.step hb)
    have O2 := Lib.hid (ElRow.below (f := Value.int .i64) (e := 3) O1.out hb)
    clear hb x0 x1
    obtain ⟨x0, x1⟩ := K2.out.box
    go_wp2_with fail
    refine (specSafe_any s w2 _ a c a' c' K2.out.2 HNN.out).mono ?_
    rintro e w3 ⟨rfl, hb⟩
    rw [HSF.out]
    have K3 := Lib.hid (K2.out.step hb)
    have O3 := Lib.hid (ElRow.below (f := Value.int .i64) (e := 3) O2.out hb)
    clear hb x0 x1
    go_wp2_with fail
    go_ret2
    exact HNO.out _ _ (by unfold rsB; rw [HSF.out]; simp) K3.out.done (ownsRow_low O3.out (by omega))
  have hok := (inOk_of hin).1
  have h10 : s.m.length ≤ 10 := (Sh.ok_iff.1 hok).1
  have HLM := Lib.hid (show LL = s.m.length by rw [HLL.out]; exact (inOk_of hin).2.1)
  have hll10 : LL ≤ 10 := by have := HLM.out; omega
  have hoks : ∀ x, okS s l x = true := fun x => safe_oks hin hsf x
  obtain ⟨O, M, hends, hcnt⟩ := ends_all (em := emR) (gr_S hok l) emR_cnt ks (fun x _ => hoks x) (d0S s) (fun _ h => h) (fun x _ => hoks x)
  have hOb := (ends_bd hok hcnt).2
  have hyes : rsB s l ks = true := by unfold rsB; rw [hin, hhk, hsf]; rfl
  have HY := Lib.hid (And.intro hyes hends)
  have HI := Lib.hid hin
  have HK := Lib.hid hkb
  have HHK := Lib.hid hhk
  have HSF := Lib.hid hsf
  have HOK := Lib.hid hoks
  have HSO := Lib.hid hok
  clear hin hkb hhk hsf hok hoks hends hcnt hyes
  go_enter Try.func28, Try.ntmps28
  go_wp2_with fail
  have hc := specInputs_any s l _ _ _ a c a' c' ai ci K0.out.2 HNN.out L0.out
  rw [← HLL.out] at hc
  refine hc.mono ?_
  clear hc
  rintro e w1 ⟨rfl, hb⟩
  rw [HI.out]
  have K1 := Lib.hid (K0.out.step hb)
  have L1 := Lib.hid (L0.out.below hb)
  have Q1 := Lib.hid (Q0.out.below hb)
  have O1 := Lib.hid (ElRow.below (f := Value.int .i64) (e := 3) HO0.out hb)
  clear hb x0 x1 K0 L0 Q0 HO0
  obtain ⟨x0, x1⟩ := K1.out.box
  go_wp2_with fail
  have hc := l4Keys_any s ks w1 _ _ a c a' c' ak ck K1.out.2 HNN.out Q1.out
  rw [← HKL.out] at hc
  refine hc.mono ?_
  clear hc
  rintro e w2 ⟨rfl, hb⟩
  rw [HK.out]
  have K2 := Lib.hid (K1.out.step hb)
  have L2 := Lib.hid (L1.out.below hb)
  have Q2 := Lib.hid (Q1.out.below hb)
  have O2 := Lib.hid (ElRow.below (f := Value.int .i64) (e := 3) O1.out hb)
  clear hb x0 x1 K1 L1 Q1 O1
  obtain ⟨x0, x1⟩ := K2.out.box
  go_wp2_with fail
  refine (specSafe_any s w2 _ a c a' c' K2.out.2 HNN.out).mono ?_
  rintro e w3 ⟨rfl, hb⟩
  rw [HSF.out]
  have K3 := Lib.hid (K2.out.step hb)
  have L3 := Lib.hid (L2.out.below hb)
  have Q3 := Lib.hid (Q2.out.below hb)
  have O3 := Lib.hid (ElRow.below (f := Value.int .i64) (e := 3) O2.out hb)
  have hs3 := (K2.out.step hb).size
  clear hb x0 x1 K2 L2 Q2 O2
  go_wp2_with (at_builtin; refine wpList_append_ints _ rfl (.tmp 33) (.tmp 34) rfl w3.heap.size _ [] rfl (rowN_new w3) _ l LL ai ci HLL.out rfl (L3.out.alloc _) ?d1 ?d2 ?_)
  case d1 => rw [← HLL.out]; simp; omega
  case d2 => simp
  intro vv w4 hr4 hgr4 hn4
  have hB34 : Below w3.heap.size w3 w4 := ((Below.refl w3.heap.size w3).alloc (Nat.le_refl _) (.cells #[] 3)).trans (below_grown hgr4 (by simp) (by intro k hk; simp [Value.ownBlock] at hk; omega))
  obtain ⟨av, cv, rfl, _⟩ := ElRow.at (f := Value.int .i64) (e := 3) hr4
  have K4 := Lib.hid (K3.out.step hB34)
  have Q4 := Lib.hid (Q3.out.below hB34)
  have O4 := Lib.hid (ElRow.below (f := Value.int .i64) (e := 3) O3.out hB34)
  have V4 := Lib.hid hr4
  have HO3L := Lib.hid (World.ownsRow.lt O3.out)
  have hs4 := hB34.size
  have hd4 := rowN_new w4
  have hq4 := rowN_new (w4.alloc (.cells #[] 3))
  simp only [World.size_alloc] at hq4
  have HD4 := Lib.hid hd4
  have HQ4 := Lib.hid hq4
  clear hr4 hgr4 hn4 hB34 hd4 hq4 K3 L3 Q3 O3
  rw [← HLL.out]
  go_wp2_with (at_builtin; refine wpList_append_ints _ rfl (.tmp 37) (.tmp 38) rfl (w4.heap.size + 1) _ [] rfl HQ4.out _ ks KL ak ck HKL.out rfl ((Q4.out.alloc _).alloc _) ?d3 ?d4 ?_)
  case d3 => rw [← HKL.out]; simp; omega
  case d4 => simp
  intro vq w5 hr5 hgr5 hn5
  have hB45 : Below (w4.heap.size + 1) (w4.alloc (.cells #[] 3)) w5 := ((Below.refl _ _).alloc (by simp) (.cells #[] 3)).trans (below_grown hgr5 (by simp) (by intro k hk; simp [Value.ownBlock] at hk; omega))
  have hB5 : Below w4.heap.size w4 w5 := ((Below.refl w4.heap.size w4).alloc (Nat.le_refl _) (.cells #[] 3)).trans (hB45.mono (by omega))
  have hs5 := hB5.size
  have hki : ∀ x ∈ ks, 0 ≤ x ∧ x < s.m.length := fun x hx => by
    have h := HHK.out
    unfold hkB at h
    rw [List.all_eq_true] at h
    have h := h x hx
    rwa [decide_eq_true_eq] at h
  obtain ⟨aq, cq, rfl, hiq⟩ := hr5.at (fun x hx => by have := hki x hx; unfold i64ok; omega)
  have hrs : RsAt w5 (w.heap.size + 1) (.slice av l.length cv) (.slice (some ⟨w4.heap.size, 0, none⟩) 0 0) (.slice (some ⟨w.heap.size + 1, 0, none⟩) 0 0) l [] [] ks aq cq := by
    have hvl := World.ownsRow.lt V4.out
    refine ⟨ownsRow_low (ElRow.below (f := Value.int .i64) (e := 3) V4.out hB5) (by omega), ownsRow_low (ElRow.below (f := Value.int .i64) (e := 3) HD4.out (by simpa using hB45)) (by omega), ownsRow_low (ElRow.below (f := Value.int .i64) (e := 3) O4.out hB5) (by omega), ?_, fun b hb h => ?_, fun b hb h => ?_, fun b hb h => ?_⟩
    · refine ⟨_, hiq.lim, fun b hs => ⟨by omega, hs.2, fun e => ?_, fun e => ?_, fun e => ?_⟩⟩
      · have := (hvl b e).2; omega
      · simp [Value.ownBlock] at e; omega
      · have := (HO3L.out b e).2; omega
    · have := (hvl b hb).2; simp [Value.ownBlock] at h; omega
    · have := (hvl b hb).1; have := (HO3L.out b h).2; omega
    · have := (HO3L.out b h).2; simp [Value.ownBlock] at hb; omega
  have hv0 : ValsOk s l l [] := ⟨rfl, fun x _ => by
    rw [dnS_nil]
    unfold d0S
    cases hm : s.mdI x
    · rw [vsS_free HSO.out hm]; simp
    · simp⟩
  have H5 := Lib.hid (And.intro hrs (And.intro hv0 (And.intro (K4.out.step hB5) hki)))
  clear hr5 hgr5 hn5 hB45 hB5 hki hiq hrs hv0 K4 Q4 O4 V4 HD4 HQ4 HO3L
  rw [← HKL.out]
  go_wp2_with fail
  go_loopg [8, 10, 11] M (fun gk vo vd vq wr => ∃ (vl D O' q : List Int) (aq : Option Addr) (cq : Nat) (o : List Int), vq = .slice aq q.length cq ∧ RsAt wr (w.heap.size + 1) (.slice av l.length cv) vd vo vl D O' q aq cq ∧ Ends emR (chS s l) (dnS s D) q o gk ∧ O' ++ o = O ∧ ValsOk s l vl D ∧ (∀ x ∈ q, 0 ≤ x ∧ x < s.m.length) ∧
    Ks (fun b => S0 b ∧ b < w.heap.size) s a c a' c' 26 w wr ∧ q.length ≤ KL + O'.length ∧ D.length ≤ O'.length ∧ (∀ x ∈ D, 0 ≤ x ∧ x < s.m.length))
  case atStart => exact ⟨l, [], [], ks, aq, cq, O, by rw [HKL.out], H5.out.1, by rw [dnS_nil]; exact HY.out.2, rfl, H5.out.2.1, H5.out.2.2.2, H5.out.2.2.1, by rw [HKL.out]; simp, by simp, by simp⟩
  case round =>
    obtain ⟨vl, D, O', q, aq, cq, o, rfl, hrs, hends, hoo, hvo, hqr, hKs, hql, hdl, hdr⟩ := hrel
    have hol : O'.length ≤ 160 := by rw [← hoo, List.length_append] at hOb; omega
    have hws := hKs.size
    cases q with
    | nil =>
      have hoe : O' = O := by rw [← hoo, hends.inv_nil, List.append_nil]
      have H6 := Lib.hid (And.intro hrs (And.intro hKs hoe))
      obtain ⟨ao, co, rfl, _⟩ := ElRow.at (f := Value.int .i64) (e := 3) hrs.o
      clear H5 hrs hends hoo hvo hqr hKs hql hdl hdr hoe
      go_wp2_with fail
      go_ret2
      exact HYES.out _ _ _ _ HY.out.1 HY.out.2 H6.out.2.1.done (by rw [← H6.out.2.2]; exact ownsRow_low H6.out.1.o (by omega))
    | cons key q =>
      have hkr := hqr key (by simp)
      obtain ⟨kn, rfl⟩ : ∃ kn : Nat, key = kn := ⟨key.toNat, by omega⟩
      have hkn : kn < s.m.length := by omega
      obtain ⟨bq, oq, haq, hcq, hcap, hcapm⟩ := hrs.head
      subst haq
      obtain ⟨x0, x1⟩ := hKs.box
      obtain ⟨bm, om, ha, hbml, hcm⟩ := md_cell hKs.2 hkn
      have HA := Lib.hid ha
      have hqr2 : ∀ x ∈ q, 0 ≤ x ∧ x < s.m.length := fun x hx => hqr x (by simp [hx])
      have hql2 : q.length + 1 ≤ KL + O'.length := by simpa using hql
      have H6 := Lib.hid (And.intro hrs (And.intro hends (And.intro hoo (And.intro hvo (And.intro hqr2 (And.intro hKs (And.intro hql2 (And.intro hdl hdr))))))))
      obtain ⟨mk, hmk⟩ : ∃ mk, mk = s.mdI (kn : Int) := ⟨_, rfl⟩
      rw [← hmk] at hcm
      have HMK := Lib.hid hmk
      clear hmk H5 hrs hends hoo hvo hqr hqr2 hKs hql hql2 hdl hdr ha
      obtain rfl := HA.out
      have hlen1 : ((kn : Int) :: q).length = q.length + 1 := rfl
      rw [hlen1]
      clear hlen1
      rcases Nat.eq_zero_or_pos (cq - 1) with hc1 | hc1
      case' inl => have HT := Lib.hid (H6.out.1.tail0 hc1)
      case' inr =>
        have HT := Lib.hid H6.out.1.tail
        have hc2 : ¬ cq - 1 = 0 := by omega
      all_goals
        cases mk
        · have hdd : dnS s D (kn : Int) = true := by unfold dnS; rw [← HMK.out]; rfl
          obtain ⟨m', hm', he'⟩ := H6.out.2.1.inv_skip hdd
          have H7 := Lib.hid (And.intro he' hm')
          clear hdd hm' he'
          go_wp2_with fail
          go_roundg m'
          case rel => exact ⟨vl, D, O', q, _, _, o, rfl, HT.out, H7.out.1, H6.out.2.2.1, H6.out.2.2.2.1, H6.out.2.2.2.2.1, H6.out.2.2.2.2.2.1, by have := H6.out.2.2.2.2.2.2.1; omega, H6.out.2.2.2.2.2.2.2.1, H6.out.2.2.2.2.2.2.2.2⟩
          case measure => have := H7.out.2; omega
        · obtain ⟨p, hp⟩ : ∃ p, p = decide ((kn : Int) ∈ D) := ⟨_, rfl⟩
          have HP := Lib.hid hp
          obtain ⟨add, cdd, rfl, hiD⟩ := H6.out.1.d.at (fun x hx => by have := H6.out.2.2.2.2.2.2.2.2 x hx; unfold i64ok; omega)
          have HID := Lib.hid hiD
          clear hp hiD
          go_wp2_with fail
          refine (has_any wr _ D add cdd (kn : Int) HID.out).mono ?_
          rintro e w6 ⟨rfl, rfl⟩
          rw [← HP.out]
          cases p
          · have hdd : dnS s D (kn : Int) = false := by unfold dnS; rw [← HMK.out, ← HP.out]; rfl
            have HDD := Lib.hid hdd
            obtain ⟨iN, ni, nz0, nz1, nz2⟩ := info_parts infoInt
            have HIN := Lib.hid (And.intro ni (And.intro nz0 (And.intro nz1 nz2)))
            have hml : maxLen = 9223372036854775807 := rfl
            have HML := Lib.hid hml
            clear hdd ni nz0 nz1 nz2 hml
            go_wp2_with (at_builtin; refine wpList_append_row _ rfl (.tmp 59) (.tmp 61) 30 rfl (w.heap.size + 1) 3 iN (.int .i64 0) 1 8 Try.underlying30 HIN.out.1 HIN.out.2.1 HIN.out.2.2.1 HIN.out.2.2.2 rfl (by decide) _ O'.length (O'.map (Value.int .i64)) rfl (World.ownsRow.alloc H6.out.1.o _) ⟨wr.heap.size, 0, none⟩ 1 1 [.int .i64 (kn : Int)] rfl rfl ?e1 ?e2 (by decide) ?e3 ?e4 ?e5 ?_)
            case e1 => exact news1 _ _ _
            case e2 => simp [Value.oneCell']
            case e3 => rw [HML.out]; omega
            case e4 => omega
            case e5 => simp; omega
            intro vo2 w7 hown hgr hnew
            have hr7 : NumRow w7 (w.heap.size + 1) vo2 (O' ++ [(kn : Int)]) := by
              unfold NumRow
              rw [List.map_append, List.length_append]
              exact hown
            have hf7 : Fr (fun b => u8.ownBlock = some b) wr w7 := (Fr.of_below (D := fun b => u8.ownBlock = some b) ((Below.refl wr.heap.size wr).alloc (Nat.le_refl _) (.cells #[.int .i64 (kn : Int)] 3))).trans (gr_fr hgr) (fun b hb => .inl hb)
            have hrs7 := H6.out.1.pushO hf7 hr7 (fun b hb => (hnew b hb).imp id (fun h => by first | omega | (simp at h; omega)))
            have hol7 := World.ownsRow.lt H6.out.1.o
            have hK7 := H6.out.2.2.2.2.2.1.fr hf7 (fun b hb => (hol7 b hb).1) (fun _ h => h.2)
            have hvb : ∀ x ∈ vl, i64ok x := fun x hx => by
              obtain ⟨i, hi, rfl⟩ := List.getElem_of_mem hx
              have h1 := H6.out.2.2.2.1.2 (i : Int) (by omega)
              rw [vf_in hi] at h1
              rw [h1]
              have h2 := vsS_bd HI.out (i : Int)
              have h3 := vf_bd (vok_mem (inOk_of HI.out).2.2).2 (i : Int)
              unfold i64ok
              split <;> omega
            obtain ⟨av2, cv2, hav, hiv⟩ := hrs7.v.at hvb
            have hvll : vl.length = l.length := H6.out.2.2.2.1.1
            obtain ⟨rfl, rfl⟩ : av = av2 ∧ cv = cv2 := by
              simp only [Value.slice.injEq] at hav
              exact ⟨hav.1, hav.2.2⟩
            obtain ⟨ad2, cd2, had, hiD7⟩ := hrs7.d.at (fun x hx => by have := H6.out.2.2.2.2.2.2.2.2 x hx; unfold i64ok; omega)
            obtain ⟨rfl, rfl⟩ : add = ad2 ∧ cdd = cd2 := by
              simp only [Value.slice.injEq, true_and] at had
              exact had
            have htry := try4_any s l vl D kn w7 _ _ _ (some ⟨bm, om, none⟩) c a' c' av cv add cdd hK7.2 hiv hiD7 HI.out hkn HMK.out.symm H6.out.2.2.2.1.2 (fun x _ => HOK.out x)
            rw [hvll, ← HLL.out] at htry
            have HTRY := Lib.hid htry
            have hs7 := hf7.size
            have H7 := Lib.hid (And.intro hrs7 (And.intro hK7 (And.intro hvb (And.intro hvll hf7))))
            obtain ⟨x0, x1⟩ := hK7.box
            have hov : ∃ ao co, vo2 = .slice ao (O'.length + 1) co := by
              obtain ⟨ao, co, h, _⟩ := ElRow.at (f := Value.int .i64) (e := 3) hr7
              rw [List.length_append, List.length_singleton] at h
              exact ⟨ao, co, h⟩
            obtain ⟨ao, co, rfl⟩ := hov
            clear hown hgr hnew hr7 hf7 hrs7 hol7 hK7 hvb hiv hvll hav had hiD7 htry HID hcm hbml
            go_wp2_with fail
            refine HTRY.out.mono ?_
            rintro e w8 ⟨hb, hcase⟩
            have hs8 := hb.size
            have H8 := Lib.hid (And.intro (H7.out.1.below hb) (And.intro (H7.out.2.1.step hb) hb))
            clear hb HTRY x0 x1
            rcases hcase with ⟨j, hnx, rfl⟩ | ⟨hnx, rfl⟩
            · obtain ⟨m', o', hm', ho', he'⟩ := H6.out.2.1.inv_more HDD.out hnx
              have hj2 : d0S s j = false := by
                cases hx : d0S s j
                · rfl
                · have := (nxt_some hnx).2; rw [dnS_lo hx] at this; cases this
              have hjm := mdI_bd (show s.mdI j = true by unfold d0S at hj2; simpa using hj2)
              have H9 := Lib.hid (And.intro he' (And.intro hm' (And.intro ho' hjm)))
              obtain ⟨Sq, hq1, hq2⟩ := HT.out.q
              have hqi := ((hq1.fr H7.out.2.2.2.2 (fun b hb => (hq2 b hb).2.2.2.2)).below H8.out.2.2).weaken (S' := fun _ => True) (fun _ _ => trivial)
              clear hq1 hq2
              have HQI := Lib.hid (hqi.alloc (.cells #[.int .i64 j, .int .i64 (kn : Int)] 3))
              have hq2 : NumRow (w8.alloc (.cells #[.int .i64 j, .int .i64 (kn : Int)] 3)) w8.heap.size (.slice (some ⟨w8.heap.size, 0, none⟩) 2 2) [j, (kn : Int)] :=
                ElRow.of_blk (f := Value.int .i64) (e := 3) (l := [j, (kn : Int)]) (Blk.new w8 3 #[.int .i64 j, .int .i64 (kn : Int)]) (Nat.le_refl _) (by simp) (by simp)
              have HQ2 := Lib.hid hq2
              clear hnx hm' ho' he' hj2 hjm hqi hq2
              go_wp2_with (at_builtin; refine wpList_append_ints _ rfl (.tmp 83) (.tmp 84) rfl w8.heap.size _ [j, (kn : Int)] rfl HQ2.out _ q q.length _ _ rfl rfl HQI.out ?g1 ?g2 ?_)
              case g1 => have := H6.out.2.2.2.2.2.2.1; simp; omega
              case g2 => simp
              intro vq2 w9 hr9 hgr9 _
              have hB9 : Below w8.heap.size w8 w9 := ((Below.refl w8.heap.size w8).alloc (Nat.le_refl _) (.cells #[.int .i64 j, .int .i64 (kn : Int)] 3)).trans (below_grown hgr9 (by simp) (by intro k hk; simp [Value.ownBlock] at hk; omega))
              obtain ⟨aq9, cq9, rfl, hrs9⟩ := H8.out.1.newQ hB9 (by omega) hr9 (fun x hx => by
                have hxx : 0 ≤ x ∧ x < s.m.length := by
                  simp only [List.mem_cons] at hx
                  rcases hx with rfl | rfl | hx
                  · exact H9.out.2.2.2
                  · exact ⟨by omega, by omega⟩
                  · exact H6.out.2.2.2.2.1 x hx
                unfold i64ok; omega)
              have HR := Lib.hid (And.intro hrs9 (H8.out.2.1.step hB9))
              clear hr9 hgr9 hB9 hrs9
              go_wp2_with fail
              go_roundg m'
              case rel => exact ⟨vl, D, O' ++ [(kn : Int)], j :: (kn : Int) :: q, _, _, o', rfl, HR.out.1, H9.out.1, by rw [← H6.out.2.2.1, H9.out.2.2.1, List.append_assoc]; rfl, H6.out.2.2.2.1, fun x hx => by
                  simp only [List.mem_cons] at hx
                  rcases hx with rfl | rfl | hx
                  · exact H9.out.2.2.2
                  · exact ⟨by omega, by omega⟩
                  · exact H6.out.2.2.2.2.1 x hx, HR.out.2, by have := H6.out.2.2.2.2.2.2.1; simp; omega, by have := H6.out.2.2.2.2.2.2.2.1; simp; omega, H6.out.2.2.2.2.2.2.2.2⟩
              case measure => have := H9.out.2.1; omega
            · obtain ⟨m', o', hm', ho', he'⟩ := H6.out.2.1.inv_fin HDD.out hnx
              rw [← dnS_snoc] at he'
              have H9 := Lib.hid (And.intro he' (And.intro hm' ho'))
              obtain ⟨x, hx⟩ : ∃ x, x = vsS s l (kn : Int) := ⟨_, rfl⟩
              rw [← hx]
              have HX := Lib.hid hx
              have hvll : vl.length = l.length := H7.out.2.2.2.1
              have hknl : kn < vl.length := by have := HLM.out; have := HLL.out; omega
              obtain ⟨gv, capv, hgv⟩ := own_some H8.out.1.v (by omega)
              obtain ⟨rfl, rfl⟩ : av = some ⟨gv, 0, none⟩ ∧ cv = capv := by
                simp only [Value.slice.injEq] at hgv
                exact ⟨hgv.1, hgv.2.2⟩
              obtain ⟨csv, hbv⟩ := num_blk H8.out.1.v
              have hcv : w8.cell? ⟨gv, kn, none⟩ = some (.int .i64 (vl[kn]'hknl)) := by
                have hc := World.ownsRow.cells H8.out.1.v (g := gv) rfl kn (.int .i64 (vl[kn]'hknl)) (by rw [List.getElem?_map, List.getElem?_eq_getElem hknl]; rfl)
                rwa [addr0] at hc
              obtain ⟨ov, hov⟩ : ∃ ov, ov = Value.int .i64 (vl[kn]'hknl) := ⟨_, rfl⟩
              rw [← hov] at hcv
              have hfv := hbv.frozen kn
              have hgl := hbv.lt
              have hknLL : kn < LL := by have := HLL.out; omega
              have hset := H8.out.1.setV kn x
              have hfs : Fr (fun b => b = gv) w8 (w8.setCell ⟨gv, kn, none⟩ (.int .i64 x)) := Fr.set' (D := fun b => b = gv) (Fr.of_below (Below.refl _ _)) ⟨gv, kn, none⟩ rfl _
              have hvlt := World.ownsRow.lt H8.out.1.v
              have hKs := H8.out.2.1.fr hfs (fun b hb => by have := (hvlt gv rfl).1; omega) (fun _ h => h.2)
              have hsz : (w8.setCell ⟨gv, kn, none⟩ (.int .i64 x)).heap.size = w8.heap.size := by simp [World.setCell]
              have hvo2 : ValsOk s l (vl.set kn x) (D ++ [(kn : Int)]) := by
                refine ⟨by rw [List.length_set]; exact hvll, fun y hy => ?_⟩
                rw [vf_set hknl x y hy, dnS_snoc]
                unfold upd
                by_cases hyk : y = (kn : Int)
                · subst hyk
                  rw [if_pos rfl, hx]; simp
                · rw [if_neg hyk, decide_eq_false hyk, Bool.or_false]
                  exact H6.out.2.2.2.1.2 y hy
              have HS := Lib.hid (And.intro hset (And.intro hKs hvo2))
              have hrow8 : (w8.setCell ⟨gv, kn, none⟩ (.int .i64 x)).ownsRow (w.heap.size + 1) 3 1 (.slice add D.length cdd) D.length (D.map (Value.int .i64)) := hset.d
              have HROW8 := Lib.hid hrow8
              have hdl := H6.out.2.2.2.2.2.2.2.1
              clear hnx hm' ho' he' hx hvll hgv hbv hov hset hfs hvlt hKs hvo2 hknl hrow8
              go_wp2_with (at_builtin; refine wpList_append_row _ rfl (.tmp 77) (.tmp 79) 30 rfl (w.heap.size + 1) 3 iN (.int .i64 0) 1 8 Try.underlying30 HIN.out.1 HIN.out.2.1 HIN.out.2.2.1 HIN.out.2.2.2 rfl (by decide) _ D.length (D.map (Value.int .i64)) rfl (World.ownsRow.alloc HROW8.out _) _ 1 1 [.int .i64 (kn : Int)] rfl rfl ?h1 ?h2 (by decide) ?h3 ?h4 ?h5 ?_)
              case h1 => first | exact news1 _ _ _ | (have h := news1 (w8.setCell ⟨gv, kn, none⟩ (.int .i64 x)) 3 (.int .i64 (kn : Int)); rw [hsz] at h; exact h)
              case h2 => simp [Value.oneCell']
              case h3 => rw [HML.out]; omega
              case h4 => omega
              case h5 => simp [hsz]; omega
              intro vd2 w9 hown hgr hnew
              have hr9 : NumRow w9 (w.heap.size + 1) vd2 (D ++ [(kn : Int)]) := by
                unfold NumRow
                rw [List.map_append, List.length_append]
                exact hown
              have hf9 : Fr (fun b => (Value.slice add D.length cdd).ownBlock = some b) (w8.setCell ⟨gv, kn, none⟩ (.int .i64 x)) w9 := (Fr.of_below (D := fun b => (Value.slice add D.length cdd).ownBlock = some b) ((Below.refl (w8.setCell ⟨gv, kn, none⟩ (.int .i64 x)).heap.size (w8.setCell ⟨gv, kn, none⟩ (.int .i64 x))).alloc (Nat.le_refl _) (.cells #[.int .i64 (kn : Int)] 3))).trans (gr_fr hgr) (fun b hb => .inl hb)
              have hrs9 := HS.out.1.pushD hf9 hr9 (fun b hb => (hnew b hb).imp id (fun h => by rw [hsz]; first | omega | (simp [hsz] at h; omega)))
              have hdlt := World.ownsRow.lt HS.out.1.d
              have hK9 := HS.out.2.1.fr hf9 (fun b hb => (hdlt b hb).1) (fun _ h => h.2)
              have H10 := Lib.hid (And.intro hrs9 (And.intro hK9 HS.out.2.2))
              obtain ⟨ad9, cd9, rfl, _⟩ := ElRow.at (f := Value.int .i64) (e := 3) hr9
              clear hown hgr hnew hr9 hf9 hrs9 hdlt hK9 HS HROW8
              go_wp2_with fail
              go_roundg m'
              case rel => exact ⟨vl.set kn x, D ++ [(kn : Int)], O' ++ [(kn : Int)], q, _, _, o', rfl, (by first | exact H10.out.1.tail0 hc1 | exact H10.out.1.tail), H9.out.1, by rw [← H6.out.2.2.1, H9.out.2.2, List.append_assoc]; rfl, H10.out.2.2, H6.out.2.2.2.2.1, H10.out.2.1, by have := H6.out.2.2.2.2.2.2.1; simp; omega, by simp; omega, fun y hy => by
                  rw [List.mem_append, List.mem_singleton] at hy
                  rcases hy with hy | rfl
                  · exact H6.out.2.2.2.2.2.2.2.2 y hy
                  · exact ⟨by omega, by omega⟩⟩
              case measure => have := H9.out.2.1; omega
          · have hdd : dnS s D (kn : Int) = true := by unfold dnS; rw [← HP.out]; simp
            obtain ⟨m', hm', he'⟩ := H6.out.2.1.inv_skip hdd
            have H7 := Lib.hid (And.intro he' hm')
            clear hdd hm' he' HID
            go_wp2_with fail
            go_roundg m'
            case rel => exact ⟨vl, D, O', q, _, _, o, rfl, HT.out, H7.out.1, H6.out.2.2.1, H6.out.2.2.2.1, H6.out.2.2.2.2.1, H6.out.2.2.2.2.2.1, by have := H6.out.2.2.2.2.2.2.1; omega, H6.out.2.2.2.2.2.2.2.1, H6.out.2.2.2.2.2.2.2.2⟩
            case measure => have := H7.out.2; omega
end Go.Proofs.Ytklmpagpkeffjaa

/- impl.SheetSafe -/
namespace Go.Proofs.Ytklmpagpkeffjaa
open Go.RowKit

def nought (n : Nat) : List Int := List.replicate n 0
theorem nought_ok {n : Nat} (h : n ≤ 10) : vok (nought n) = true := by
  unfold vok nought
  rw [List.length_replicate, decide_eq_true h, Bool.true_and, List.all_eq_true]
  intro x hx
  rw [List.eq_of_mem_replicate hx]
  rfl
theorem nought_in {s : Sh} (h : s.ok = true) : inOk s (nought s.m.length) = true := by
  unfold inOk
  rw [h, nought_ok (Sh.ok_iff.1 h).1]
  simp [nought]
theorem nought_at (w : World) (n : Nat) (hn : n ≤ 9223372036854775807) : IntsAt (w.alloc (.cells (madeCells #[.int .i64 0] n) 3)) (fun _ => True) (nought n) (some ⟨w.heap.size, 0, none⟩) n := by
  have hl : (nought n).length = n := by simp [nought]
  refine ⟨by rw [hl]; omega, hn, fun v hv => by rw [List.eq_of_mem_replicate hv]; unfold i64ok; omega, .inr ⟨w.heap.size, 0, rfl, trivial, fun i hi => ?_⟩⟩
  rw [hl] at hi
  rw [Nat.zero_add, World.cell?_alloc_new, ← Array.getElem?_toList, toList_madeCells_one, List.getElem?_replicate, if_pos hi]
  simp [nought]

set_option maxRecDepth 100000 in
set_option maxHeartbeats 4000000 in
theorem implSafe_any (s : Sh) (w : World) (S0 : Nat → Prop) (a : Option Addr) (c : Nat) (a' : Option Addr) (c' : Nat) (h0 : ShAt w S0 s a c a' c') :
    Calls Try.prog 52 #[.agg #[.slice a s.m.length c, .slice a' s.t.length c']] w fun e w' => e = .returned (.bool (safeB s)) ∧ Below w.heap.size w w' := by
  obtain ⟨S, hSd⟩ : ∃ S : Nat → Prop, S = fun b => S0 b ∧ b < w.heap.size := ⟨_, rfl⟩
  have hSl : ∀ b, S b → b < w.heap.size := by rw [hSd]; exact fun b h => h.2
  have h : ShAt w S s a c a' c' := by rw [hSd]; exact h0.lim
  have HSL := Lib.hid hSl
  have K0 := Lib.hid (Ks.start (ty := 26) h)
  clear h h0 hSd hSl
  obtain ⟨x0, x1⟩ := K0.out.box
  cases hok : s.ok
  · have HV := Lib.hid (show safeB s = false by unfold safeB; rw [hok]; rfl)
    have HO := Lib.hid hok
    clear hok
    go_enter Try.func52, Try.ntmps52
    go_wp2_with fail
    refine (implSheetOk_any s _ S a c a' c' K0.out.2).mono ?_
    rintro e w1 ⟨rfl, hb⟩
    rw [HO.out]
    have K1 := Lib.hid (K0.out.step hb)
    clear hb x0 x1
    go_wp2_with fail
    go_ret
    exact ⟨ret_bool HV.out.symm, K1.out.done⟩
  · have hm10 : s.m.length ≤ 10 := (Sh.ok_iff.1 hok).1
    have HO := Lib.hid hok
    have HI := Lib.hid (nought_in hok)
    obtain ⟨n, hnn⟩ : ∃ n, n = s.m.length := ⟨_, rfl⟩
    have HN := Lib.hid hnn
    have hn10 : n ≤ 10 := by omega
    obtain ⟨i0, hi, hz0, hz1, hz2⟩ := info_parts infoInt
    have hmk := fun W => run_make_rowN (P := Try.prog) 30 3 i0 _ Try.underlying30 hi hz0 .i64 .i64 n n (Nat.le_refl _) (by rw [hz2]; omega) (by omega) W
    rw [hz1] at hmk
    clear hok hm10
    go_enter Try.func52, Try.ntmps52
    go_wp2_with fail
    refine (implSheetOk_any s _ S a c a' c' K0.out.2).mono ?_
    rintro e w1 ⟨rfl, hb⟩
    rw [HO.out]
    have K1 := Lib.hid (K0.out.step hb)
    clear hb x0 x1
    obtain ⟨x0, x1⟩ := K1.out.box
    rw [← hnn] at x0 ⊢
    have hwl : w.heap.size < w1.heap.size := by have := K1.out.size; omega
    clear hnn
    go_wp2_with fail
    have hc2 : Calls Try.prog 69 #[.agg #[.slice a n c, .slice a' s.t.length c'], .slice (some ⟨w1.heap.size, 0, none⟩) n n] (w1.alloc (.cells (madeCells #[.int .i64 0] n) 3)).drew (NodesPost (fun b => S b ∧ b < (w1.alloc (.cells (madeCells #[.int .i64 0] n) 3)).drew.heap.size) s (nought n) (w1.alloc (.cells (madeCells #[.int .i64 0] n) 3)).drew) := by
      have h := nodes_any' s (nought s.m.length) (w1.alloc (.cells (madeCells #[.int .i64 0] s.m.length) 3)).drew S (fun _ => True) a c a' c' (some ⟨w1.heap.size, 0, none⟩) s.m.length (K1.out.2.alloc _).drew (nought_at w1 s.m.length (by have := HN.out; omega)).drew HI.out
      rw [show (nought s.m.length).length = s.m.length by simp [nought], ← HN.out] at h
      exact h
    have HC2 := Lib.hid hc2
    have K2 := Lib.hid ((K1.out.alloc (.cells (madeCells #[.int .i64 0] n) 3)).drew)
    have hsd : (w1.alloc (.cells (madeCells #[.int .i64 0] n) 3)).drew.heap.size = w1.heap.size + 1 := by simp [World.drew]
    have HSD := Lib.hid hsd
    clear hc2 hsd
    go_region_with (go_at_call 69; refine HC2.out.mono ?_; rintro e w3 ⟨g, b, rfl, hb1, hg1, hnb, hp, hnd, hb⟩; rw [← HN.out] at hp hnd hnb ⊢)
    all_goals
      clear hmk
      have hS : ∀ b, (fun b => S b ∧ b < (w1.alloc (.cells (madeCells #[.int .i64 0] n) 3)).drew.heap.size) b → b < g := fun b hb => by have := hb.2; omega
      have HS := Lib.hid hS
      have HP3 := Lib.hid (And.intro hp (And.intro hnd (K2.out.step hb).done))
      have HNB := Lib.hid hnb
      have HG := Lib.hid (show w.heap.size ≤ g by have := HSD.out; omega)
      clear HC2 hb hp hnd hS hnb K2 x0 x1 hb1 hg1
      go_wp2_with fail
      go_loopw [15] (fun i wr => ∃ (k : Nat) (d : Int → Bool), k ≤ n ∧ i = .int .i64 k ∧ (∀ i, i < k → okM s (i : Int) = true) ∧ (∀ q, (!s.mdI q) = true → d q = true) ∧ (∀ q, d q = true → okM s q = true) ∧ PRow wr b g n n ∧
        Nds wr (fun b => S b ∧ b < (w1.alloc (.cells (madeCells #[.int .i64 0] n) 3)).drew.heap.size) s g n (mpv s g n) (vf (nought n)) d ∧ Below w.heap.size w wr) (fun i _ => n - (intOf i).toNat)
      case atStart => exact ⟨0, fun k => !s.mdI k, by omega, rfl, fun i hi => by omega, fun _ h => h, fun k h => (gr_M s).d0ok k h, HP3.out.1, HP3.out.2.1, HP3.out.2.2⟩
      case round =>
        obtain ⟨k, d, hk, rfl, hall, hlo, hhi, hp, hnd, hb⟩ := hrel
        have H4 := Lib.hid (And.intro hall (And.intro hlo (And.intro hhi (And.intro hp (And.intro hnd hb)))))
        clear HP3 hall hlo hhi hnd hb
        by_cases hlt : k < n
        · have hcell := hp.cell hlt
          clear hp
          go_wp2_with fail
          have hg := gr_M s
          have hst := settle_step (S := fun b => S b ∧ b < (w1.alloc (.cells (madeCells #[.int .i64 0] n) 3)).drew.heap.size) (s := s) (g := g) (vf (nought n)) HS.out
          rw [← HN.out] at hg hst
          refine (finish_any hg hst hn10 HS.out wr d k hlt H4.out.2.1 H4.out.2.2.1 H4.out.2.2.2.2.1).mono ?_
          rintro e w4 ⟨d2, L, a4, c4, rfl, hat, hnd2, hdd, hdo, hfr, _, ⟨rfl, hdf⟩ | ⟨hne, hnok, hLc⟩⟩
          · have hp4 := H4.out.2.2.2.1.fr hfr HNB.out
            have hb4 : Below w.heap.size w w4 := below_nd H4.out.2.2.2.2.2 hfr HG.out H4.out.2.2.2.2.2.size
            have hok2 : ∀ i, i < k + 1 → okM s (i : Int) = true := fun i hi => by
              by_cases hik : i = k
              · subst hik; exact hdo _ hdf
              · exact H4.out.1 i (by omega)
            have H5 := Lib.hid (And.intro hok2 (And.intro (fun q hq => hdd q (H4.out.2.1 q hq)) (And.intro hdo (And.intro hp4 (And.intro hnd2 hb4)))))
            clear hat hnd2 hdd hdo hfr hdf hp4 hb4 hok2 hg hst hcell
            go_wp2_with fail
            go_roundw
            case rel => exact ⟨k + 1, d2, by omega, by go_num, H5.out.1, H5.out.2.1, H5.out.2.2.1, H5.out.2.2.2.1, H5.out.2.2.2.2.1, H5.out.2.2.2.2.2⟩
            case measure => simp [intOf]; omega
          · have hb4 : Below w.heap.size w w4 := below_nd H4.out.2.2.2.2.2 hfr HG.out H4.out.2.2.2.2.2.size
            have HB4 := Lib.hid hb4
            have HV := Lib.hid (show safeB s = false by
              unfold safeB
              cases hx : (List.range s.m.length).all fun (i : Nat) => okM s (i : Int)
              · rw [Bool.and_false]
              · rw [List.all_eq_true] at hx
                rw [hx k (List.mem_range.2 (by rw [← HN.out]; exact hlt))] at hnok
                cases hnok)
            have hlp2 : 0 < L.length := List.length_pos_iff.2 hne
            have hlp : decide ((0 : Int) < (L.length : Int)) = true := decide_eq_true (by omega)
            have hlp3 : decide (0 < L.length) = true := decide_eq_true hlp2
            have hLm : L.length ≤ 9223372036854775807 := by have := hat.1; have := hat.2.1; omega
            clear hat hnd2 hdd hdo hfr hnok hLc hb4 hg hst hcell hne
            go_wp2_with fail
            go_ret
            exact ⟨ret_bool HV.out.symm, HB4.out⟩
        · obtain rfl : n = k := by omega
          have HV := Lib.hid (show safeB s = true by
            unfold safeB
            rw [HO.out, Bool.true_and, List.all_eq_true]
            intro i hi
            rw [List.mem_range, ← HN.out] at hi
            exact H4.out.1 i hi)
          clear hp
          go_wp2_with fail
          go_ret
          exact ⟨ret_bool HV.out.symm, H4.out.2.2.2.2.2⟩
end Go.Proofs.Ytklmpagpkeffjaa

/- impl.OrderSuspend, impl.OrderRestart -/
namespace Go.Proofs.Ytklmpagpkeffjaa
open Go.RowKit

theorem ojB_no {g n bx : Nat} {v : Value} {base b : Nat} {w : World} {tr : List Int} (ho : OrdAt w bx base v tr) (h1 : b ≠ bx) (h2 : ¬ ndB g n b) (h3 : b < base) : ¬ ojB g n bx v b := by
  rintro (h | h | h)
  · exact h2 h
  · exact h1 h
  · have := (World.ownsRow.lt ho.2 b h).1; omega
/-- One key of the queue more. -/
theorem sim_step {em : Int → Option Int → List Int} {ch : Int → List Int} {d0 d d' : Int → Bool} {ks tr X : List Int} {k : Nat} (hk : k < ks.length) (h : ∀ q o m, Ends em ch d q o m → ∃ m', Ends em ch d0 (ks.take k ++ q) (tr ++ o) m') (hv : Visit em ch d ks[k] X d') :
    ∀ q o m, Ends em ch d' q o m → ∃ m', Ends em ch d0 (ks.take (k + 1) ++ q) ((tr ++ X) ++ o) m' := fun q o m he => by
  obtain ⟨m1, h1⟩ := hv q o m he
  obtain ⟨m2, h2⟩ := h _ _ _ h1
  refine ⟨m2, ?_⟩
  rw [List.take_succ_eq_append_getElem hk, List.append_assoc, List.append_assoc]
  exact h2
set_option maxRecDepth 100000 in
set_option maxHeartbeats 4000000 in
theorem implSuspend_any (s : Sh) (l ks : List Int) (w : World) (S0 S1 S2 : Nat → Prop) (a : Option Addr) (c : Nat) (a' : Option Addr) (c' : Nat) (ai : Option Addr) (ci : Nat) (ak : Option Addr) (ck : Nat) (h0 : ShAt w S0 s a c a' c') (hl : IntsAt w S1 l ai ci) (hk0 : IntsAt w S2 ks ak ck) :
    Calls Try.prog 22 #[.agg #[.slice a s.m.length c, .slice a' s.t.length c'], .slice ai l.length ci, .slice ak ks.length ck] w (OrP (suB s l ks) (suL s l ks) w) := by
  obtain ⟨S, hSd⟩ : ∃ S : Nat → Prop, S = fun b => S0 b ∧ b < w.heap.size := ⟨_, rfl⟩
  have hSl : ∀ b, S b → b < w.heap.size := by rw [hSd]; exact fun b h => h.2
  have h : ShAt w S s a c a' c' := by rw [hSd]; exact h0.lim
  have HSL := Lib.hid hSl
  have K0 := Lib.hid (Ks.start (ty := 26) h)
  have L0 := Lib.hid (hl.alloc (.cells #[.slice a s.m.length c, .slice a' s.t.length c'] 26))
  have Q0 := Lib.hid (hk0.lim.alloc (.cells #[.slice a s.m.length c, .slice a' s.t.length c'] 26))
  have hkl : ks.length ≤ 9223372036854775807 := by have := hk0.1; have := hk0.2.1; omega
  obtain ⟨KL, hKL⟩ : ∃ n, n = ks.length := ⟨_, rfl⟩
  have HKL := Lib.hid hKL
  rw [← hKL] at hkl ⊢
  obtain ⟨b, hb⟩ : ∃ b, b = suB s l ks := ⟨_, rfl⟩
  obtain ⟨L, hL⟩ : ∃ L, L = suL s l ks := ⟨_, rfl⟩
  have HNO := Lib.hid (show ∀ (w' : World) (v : Value), suB s l ks = false → Below w.heap.size w w' → NumRow w' w.heap.size v [] → OrP b L w (.returned (.tuple #[v, .bool false])) w' from fun w' v h1 h2 h3 => by rw [hb, hL]; exact OrP.su_no h1 h2 h3)
  have HYES := Lib.hid (show ∀ (w' : World) (v : Value) (o : List Int) (m : Nat), suB s l ks = true → Ends emS (chS s l) (d0S s) ks o m → Below w.heap.size w w' → NumRow w' w.heap.size v o → OrP b L w (.returned (.tuple #[v, .bool true])) w' from fun w' v o m h1 h2 h3 h4 => by rw [hb, hL]; exact OrP.su_yes h1 h2 h3 h4)
  rw [← hb, ← hL]
  clear h h0 hl hk0 hSd hSl hKL hb hL
  obtain ⟨x0, x1⟩ := K0.out.box
  have hmf : ∀ (fn : Fn) (first cap : Array Value) (w : World), (Instr.makeFunc fn first cap).run Try.prog w = .ok (.func fn first cap) w := fun _ _ _ _ => rfl
  cases hin : inOk s l
  · have HI := Lib.hid hin
    clear hin
    go_enter Try.func22, Try.ntmps22
    go_wp2_with fail
    refine (implInputs_any s l _ S _ a c a' c' ai ci K0.out.2 L0.out).mono ?_
    rintro e w1 ⟨rfl, hb⟩
    rw [HI.out]
    have K1 := Lib.hid (K0.out.step hb)
    clear hb x0 x1
    go_wp2_with fail
    go_ret2
    exact HNO.out _ _ (by unfold suB; rw [HI.out]; rfl) K1.out.done (World.ownsRow_nil _ _ _ _)
  cases hkb : hkB s ks
  · have HI := Lib.hid hin
    have HK := Lib.hid hkb
    clear hin hkb
    go_enter Try.func22, Try.ntmps22
    go_wp2_with fail
    refine (implInputs_any s l _ S _ a c a' c' ai ci K0.out.2 L0.out).mono ?_
    rintro e w1 ⟨rfl, hb⟩
    rw [HI.out]
    have K1 := Lib.hid (K0.out.step hb)
    have Q1 := Lib.hid (Q0.out.below hb)
    clear hb x0 x1
    obtain ⟨x0, x1⟩ := K1.out.box
    go_wp2_with fail
    have hc := hasKeys_any s ks w1 S _ a c a' c' ak ck K1.out.2 Q1.out
    rw [← HKL.out] at hc
    refine hc.mono ?_
    clear hc
    rintro e w2 ⟨rfl, hb⟩
    rw [HK.out]
    have K2 := Lib.hid (K1.out.step hb)
    clear hb x0 x1
    go_wp2_with fail
    go_ret2
    exact HNO.out _ _ (by unfold suB; rw [HK.out]; simp) K2.out.done (World.ownsRow_nil _ _ _ _)
  have hok := (inOk_of hin).1
  have hmb : s.m.length ≤ 10 := (Sh.ok_iff.1 hok).1
  have HI := Lib.hid hin
  have HK := Lib.hid hkb
  have HOK := Lib.hid hok
  obtain ⟨n, hn⟩ : ∃ n, n = s.m.length := ⟨_, rfl⟩
  have HN := Lib.hid hn
  have hn10 : n ≤ 10 := by omega
  clear hin hkb hok hn hmb
  go_enter Try.func22, Try.ntmps22
  go_wp2_with fail
  refine (implInputs_any s l _ S _ a c a' c' ai ci K0.out.2 L0.out).mono ?_
  rintro e w1 ⟨rfl, hb⟩
  rw [HI.out]
  have K1 := Lib.hid (K0.out.step hb)
  have L1 := Lib.hid (L0.out.below hb)
  have Q1 := Lib.hid (Q0.out.below hb)
  clear hb x0 x1 K0 L0 Q0
  obtain ⟨x0, x1⟩ := K1.out.box
  go_wp2_with fail
  have hc := hasKeys_any s ks w1 S _ a c a' c' ak ck K1.out.2 Q1.out
  rw [← HKL.out] at hc
  refine hc.mono ?_
  clear hc
  rintro e w2 ⟨rfl, hb⟩
  rw [HK.out]
  have K2 := Lib.hid (K1.out.step hb)
  have L2 := Lib.hid (L1.out.below hb)
  have Q2 := Lib.hid (Q1.out.below hb)
  clear hb x0 x1 K1 L1 Q1
  obtain ⟨x0, x1⟩ := K2.out.box
  have hs2 := K2.out.size
  have K2b := Lib.hid (K2.out.alloc (.cells #[.slice none 0 0] 30))
  have L2b := Lib.hid (L2.out.alloc (.cells #[.slice none 0 0] 30))
  have Q2b := Lib.hid (Q2.out.alloc (.cells #[.slice none 0 0] 30))
  have B2b := Lib.hid (Blk.new w2 30 #[.slice none 0 0])
  clear x0 x1 K2 L2 Q2
  obtain ⟨x0, x1⟩ := K2b.out.box
  go_wp2_with fail
  refine (nodes_any' s l _ S _ a c a' c' ai ci K2b.out.2 L2b.out HI.out).mono ?_
  rintro e w3 ⟨g, br, rfl, hb1, hg1, hnb, hp, hnd, hb⟩
  rw [← HN.out] at hp hnd hnb ⊢
  have hs3 := hb.size
  simp only [World.size_alloc] at hb1 hg1 hs3
  have hgw : n = 0 ∨ g + n ≤ w3.heap.size := by
    rcases Nat.eq_zero_or_pos n with h | h
    · exact .inl h
    · obtain ⟨_, _, hl, _⟩ := hnd.node (i := n - 1) (by omega)
      exact .inr (by omega)
  have hbl : n = 0 ∨ br < w3.heap.size := by
    rcases Nat.eq_zero_or_pos n with h | h
    · exact .inl h
    · exact .inr (cell_lt (hp.cell h))
  have ho3 : OrdAt w3 w2.heap.size w3.heap.size (.slice none 0 0) [] := ⟨B2b.out.below hb (by simp), World.ownsRow_nil _ _ _ _⟩
  have hnd2 := nds_start HOK.out hnd
  have hud : undone (fun k => !s.mdI k) n ≤ n := undone_le _ _
  have hu110 : undone (fun k => !s.mdI k) n * (n + 1) ≤ 110 := Nat.le_trans (Nat.mul_le_mul (Nat.le_trans hud hn10) (Nat.succ_le_succ hn10)) (by decide)
  have H3 := Lib.hid (And.intro hp (And.intro hnd2 (And.intro ((K2b.out.step hb).done) (And.intro (Q2b.out.below hb) (And.intro ho3 hu110)))))
  have HSB := Lib.hid (show ∀ b, (fun b => S b ∧ b < (w2.alloc (.cells #[.slice none 0 0] 30)).heap.size) b → b < g ∧ b ≠ w2.heap.size from fun b hb => by
    have := HSL.out b hb.1
    omega)
  have HNB := Lib.hid hnb
  clear hb hp hnd hnb ho3 hnd2 hud hu110 x0 x1 K2b L2b Q2b B2b
  go_wp2_with fail
  go_loopw [29] (fun i wr => ∃ (k : Nat) (d : Int → Bool) (v : Value) (tr : List Int), k ≤ KL ∧ i = .int .i64 k ∧ (∀ q, (!s.mdI q) = true → d q = true) ∧ (∀ q, d q = true → okS s l q = true) ∧ PRow wr br g n n ∧
    Nds wr (fun b => S b ∧ b < (w2.alloc (.cells #[.slice none 0 0] 30)).heap.size) s g n (mpv s g n) (fun q => if d q = true then vsS s l q else vf l q) d ∧ Below w.heap.size w wr ∧ IntsAt wr (fun b => S2 b ∧ b < w.heap.size) ks ak ck ∧ OrdAt wr w2.heap.size w3.heap.size v tr ∧
    tr.length + undone d n * (n + 1) ≤ 110 ∧ (∀ q o m, Ends emS (chS s l) d q o m → ∃ m', Ends emS (chS s l) (d0S s) (ks.take k ++ q) (tr ++ o) m') ∧ (∀ x ∈ ks.take k, okS s l x = true) ∧ w3.heap.size ≤ wr.heap.size) (fun i _ => KL - (intOf i).toNat)
  case atStart => exact ⟨0, fun k => !s.mdI k, _, [], by omega, rfl, fun _ h => h, fun k h => (gr_S HOK.out l).d0ok k h, H3.out.1, H3.out.2.1, H3.out.2.2.1, H3.out.2.2.2.1, H3.out.2.2.2.2.1, by simpa using H3.out.2.2.2.2.2, fun q o m h => ⟨m, h⟩, by simp, Nat.le_refl _⟩
  case round =>
    obtain ⟨k, d, v, tr, hk, rfl, hlo, hhi, hp, hnd, hbw, hki, hord, hlen, hsim, hall, hws⟩ := hrel
    have H4 := Lib.hid (And.intro hlo (And.intro hhi (And.intro hp (And.intro hnd (And.intro hbw (And.intro hki (And.intro hord (And.intro hlen (And.intro hsim hall)))))))))
    clear H3 hlo hhi hnd hbw hki hlen hsim hall
    by_cases hlt : k < KL
    · have hlt2 : k < ks.length := by have := HKL.out; omega
      obtain ⟨bk, ok, rfl, hbkl, _, hc⟩ := H4.out.2.2.2.2.2.1.get (Below.refl _ _) hlt2
      obtain ⟨key, hkey⟩ : ∃ key, key = ks[k] := ⟨_, rfl⟩
      have hkr : 0 ≤ key ∧ key < s.m.length := by
        have h := HK.out
        unfold hkB at h
        rw [List.all_eq_true] at h
        have h := h ks[k] (List.getElem_mem _)
        rw [decide_eq_true_eq] at h
        rw [hkey]; exact h
      obtain ⟨kn, rfl⟩ : ∃ kn : Nat, key = kn := ⟨key.toNat, by omega⟩
      have hkn : kn < n := by have := HN.out; omega
      rw [← hkey] at hc
      have HKEY := Lib.hid hkey
      have HL2 := Lib.hid hlt2
      have hcell := hp.cell hkn
      have hgn : g + n ≤ w3.heap.size := by rcases hgw with h | h <;> omega
      have hg := gr_S HOK.out l
      have hst := suspend_step (bx := w2.heap.size) (base := w3.heap.size) (try_step (S := fun b => S b ∧ b < (w2.alloc (.cells #[.slice none 0 0] 30)).heap.size) (g := g) HI.out (fun b hb => (HSB.out b hb).1)) HSB.out (by omega) (by rw [← HN.out]; exact hgn)
      rw [← HN.out] at hg hst
      have hfin := finishJ_any hg hst hn10 (fun b hb => (HSB.out b hb).1) (by omega) (fun b hb => (HSB.out b hb).2) wr d kn v tr hkn H4.out.1 H4.out.2.1 H4.out.2.2.2.1 hord (by have := H4.out.2.2.2.2.2.2.2.1; omega) hws
      have HFIN := Lib.hid hfin
      clear hkey hkr hp hg hst hfin hord
      go_wp2_with fail
      refine HFIN.out.mono ?_
      rintro e w4 ⟨d2, ln, a4, c4, v4, X, rfl, hlc, hcm, hnd2, hdd, hdo, hord4, hown4, hfr, hcase⟩
      clear hcell hc HFIN
      have hordw := H4.out.2.2.2.2.2.2.1
      have hvl := World.ownsRow.lt hordw.2
      have hb4 : Below w.heap.size w w4 := H4.out.2.2.2.2.1.trans ⟨hfr.1, hfr.2.1, hfr.2.2.1, hfr.2.2.2.1, fun b hb => hfr.2.2.2.2 b (by have := H4.out.2.2.2.2.1.size; omega) (fun h => by
        rcases h with h | h | h
        · have := h.1; omega
        · omega
        · have := (hvl b h).1; omega)⟩
      have hs4 := hfr.size
      rcases hcase with ⟨rfl, hdf, hvis, hlen⟩ | ⟨hne, hnok⟩
      · have hp4 := H4.out.2.2.1.fr hfr (ojB_no hordw (by omega) HNB.out (by rcases hbl with h | h <;> omega))
        have hk4 := H4.out.2.2.2.2.2.1.fr hfr (fun b hb => ojB_no hordw (by have := hb.2; omega) (fun h => by have := h.1; have := hb.2; omega) (by have := hb.2; omega))
        have hlen4 : (tr ++ X).length + undone d2 n * (n + 1) ≤ 110 := by rw [List.length_append]; have := H4.out.2.2.2.2.2.2.2.1; omega
        have hsim4 := sim_step HL2.out H4.out.2.2.2.2.2.2.2.2.1 (by rw [← HKEY.out]; exact hvis)
        have hall4 : ∀ x ∈ ks.take (k + 1), okS s l x = true := fun x hx => by
          rw [List.take_succ_eq_append_getElem HL2.out, List.mem_append, List.mem_singleton] at hx
          rcases hx with hx | rfl
          · exact H4.out.2.2.2.2.2.2.2.2.2 x hx
          · rw [← HKEY.out]; exact hdo _ hdf
        have H5 := Lib.hid (And.intro (fun q hq => hdd q (H4.out.1 q hq)) (And.intro hdo (And.intro hp4 (And.intro hnd2 (And.intro hb4 (And.intro hk4 (And.intro hord4 (And.intro hlen4 (And.intro hsim4 hall4)))))))))
        clear hnd2 hdd hdo hord4 hown4 hfr hdf hvis hlen hordw hvl hb4 hp4 hk4 hlen4 hsim4 hall4
        go_wp2_with fail
        go_roundw
        case rel => exact ⟨k + 1, d2, v4, tr ++ X, by omega, by go_num, H5.out.1, H5.out.2.1, H5.out.2.2.1, H5.out.2.2.2.1, H5.out.2.2.2.2.1, H5.out.2.2.2.2.2.1, H5.out.2.2.2.2.2.2.1, H5.out.2.2.2.2.2.2.2.1, H5.out.2.2.2.2.2.2.2.2.1, H5.out.2.2.2.2.2.2.2.2.2, by omega⟩
        case measure => simp [intOf]; omega
      · have HB4 := Lib.hid hb4
        have hno : suB s l ks = false := by
          unfold suB
          rw [all_fls HL2.out (by rw [← HKEY.out]; exact hnok), Bool.and_false]
        have HF := Lib.hid hno
        have hlp2 : 0 < ln := by omega
        have hlp : decide ((0 : Int) < (ln : Int)) = true := decide_eq_true (by omega)
        have hlp3 : decide (0 < ln) = true := decide_eq_true hlp2
        clear hnd2 hdd hdo hord4 hown4 hfr hnok hne hordw hvl hb4 hno
        go_wp2_with fail
        go_ret2
        exact HNO.out _ _ HF.out HB4.out (World.ownsRow_nil _ _ _ _)
    · have hq : ks.take k = ks := List.take_of_length_le (by have := HKL.out; omega)
      have hyes : suB s l ks = true := by
        unfold suB
        rw [HI.out, HK.out, Bool.true_and, Bool.true_and, List.all_eq_true]
        intro x hx
        exact H4.out.2.2.2.2.2.2.2.2.2 x (by rw [hq]; exact hx)
      have hends : ∃ m', Ends emS (chS s l) (d0S s) ks tr m' := by
        obtain ⟨m', h⟩ := H4.out.2.2.2.2.2.2.2.2.1 [] [] 0 (.nil d)
        rw [hq, List.append_nil, List.append_nil] at h
        exact ⟨m', h⟩
      have HY := Lib.hid (And.intro hyes hends)
      obtain ⟨y0, _⟩ := hord.1.one
      obtain ⟨av, cv, rfl, _⟩ := ElRow.at (f := Value.int .i64) (e := 3) hord.2
      clear hq hyes hends hord hp
      go_wp2_with fail
      go_ret2
      obtain ⟨m', h⟩ := HY.out.2
      exact HYES.out _ _ _ _ HY.out.1 h H4.out.2.2.2.2.1 (ownsRow_low H4.out.2.2.2.2.2.2.1.2 (by omega))

set_option maxRecDepth 100000 in
set_option maxHeartbeats 4000000 in
theorem implRestart_any (s : Sh) (l ks : List Int) (w : World) (S0 S1 S2 : Nat → Prop) (a : Option Addr) (c : Nat) (a' : Option Addr) (c' : Nat) (ai : Option Addr) (ci : Nat) (ak : Option Addr) (ck : Nat) (h0 : ShAt w S0 s a c a' c') (hl : IntsAt w S1 l ai ci) (hk0 : IntsAt w S2 ks ak ck) :
    Calls Try.prog 27 #[.agg #[.slice a s.m.length c, .slice a' s.t.length c'], .slice ai l.length ci, .slice ak ks.length ck] w (OrP (rsB s l ks) (rsL s l ks) w) := by
  obtain ⟨S, hSd⟩ : ∃ S : Nat → Prop, S = fun b => S0 b ∧ b < w.heap.size := ⟨_, rfl⟩
  have hSl : ∀ b, S b → b < w.heap.size := by rw [hSd]; exact fun b h => h.2
  have h : ShAt w S s a c a' c' := by rw [hSd]; exact h0.lim
  have HSL := Lib.hid hSl
  have K0 := Lib.hid (Ks.start (ty := 26) h)
  have L0 := Lib.hid (hl.alloc (.cells #[.slice a s.m.length c, .slice a' s.t.length c'] 26))
  have Q0 := Lib.hid (hk0.lim.alloc (.cells #[.slice a s.m.length c, .slice a' s.t.length c'] 26))
  have hkl : ks.length ≤ 9223372036854775807 := by have := hk0.1; have := hk0.2.1; omega
  obtain ⟨KL, hKL⟩ : ∃ n, n = ks.length := ⟨_, rfl⟩
  have HKL := Lib.hid hKL
  rw [← hKL] at hkl ⊢
  obtain ⟨b, hb⟩ : ∃ b, b = rsB s l ks := ⟨_, rfl⟩
  obtain ⟨L, hL⟩ : ∃ L, L = rsL s l ks := ⟨_, rfl⟩
  have HNO := Lib.hid (show ∀ (w' : World) (v : Value), rsB s l ks = false → Below w.heap.size w w' → NumRow w' w.heap.size v [] → OrP b L w (.returned (.tuple #[v, .bool false])) w' from fun w' v h1 h2 h3 => by rw [hb, hL]; exact OrP.rs_no h1 h2 h3)
  have HYES := Lib.hid (show ∀ (w' : World) (v : Value) (o : List Int) (m : Nat), rsB s l ks = true → Ends emR (chS s l) (d0S s) ks o m → Below w.heap.size w w' → NumRow w' w.heap.size v o → OrP b L w (.returned (.tuple #[v, .bool true])) w' from fun w' v o m h1 h2 h3 h4 => by rw [hb, hL]; exact OrP.rs_yes h1 h2 h3 h4)
  rw [← hb, ← hL]
  clear h h0 hl hk0 hSd hSl hKL hb hL
  obtain ⟨x0, x1⟩ := K0.out.box
  have hmf : ∀ (fn : Fn) (first cap : Array Value) (w : World), (Instr.makeFunc fn first cap).run Try.prog w = .ok (.func fn first cap) w := fun _ _ _ _ => rfl
  cases hin : inOk s l
  · have HI := Lib.hid hin
    clear hin
    go_enter Try.func27, Try.ntmps27
    go_wp2_with fail
    refine (implInputs_any s l _ S _ a c a' c' ai ci K0.out.2 L0.out).mono ?_
    rintro e w1 ⟨rfl, hb⟩
    rw [HI.out]
    have K1 := Lib.hid (K0.out.step hb)
    clear hb x0 x1
    go_wp2_with fail
    go_ret2
    exact HNO.out _ _ (by unfold rsB; rw [HI.out]; rfl) K1.out.done (World.ownsRow_nil _ _ _ _)
  cases hkb : hkB s ks
  · have HI := Lib.hid hin
    have HK := Lib.hid hkb
    clear hin hkb
    go_enter Try.func27, Try.ntmps27
    go_wp2_with fail
    refine (implInputs_any s l _ S _ a c a' c' ai ci K0.out.2 L0.out).mono ?_
    rintro e w1 ⟨rfl, hb⟩
    rw [HI.out]
    have K1 := Lib.hid (K0.out.step hb)
    have Q1 := Lib.hid (Q0.out.below hb)
    clear hb x0 x1
    obtain ⟨x0, x1⟩ := K1.out.box
    go_wp2_with fail
    have hc := hasKeys_any s ks w1 S _ a c a' c' ak ck K1.out.2 Q1.out
    rw [← HKL.out] at hc
    refine hc.mono ?_
    clear hc
    rintro e w2 ⟨rfl, hb⟩
    rw [HK.out]
    have K2 := Lib.hid (K1.out.step hb)
    clear hb x0 x1
    go_wp2_with fail
    go_ret2
    exact HNO.out _ _ (by unfold rsB; rw [HK.out]; simp) K2.out.done (World.ownsRow_nil _ _ _ _)
  cases hsf : safeB s
  · have HI := Lib.hid hin
    have HK := Lib.hid hkb
    have HSF := Lib.hid hsf
    clear hin hkb hsf
    go_enter Try.func27, Try.ntmps27
    go_wp2_with fail
    refine (implInputs_any s l _ S _ a c a' c' ai ci K0.out.2 L0.out).mono ?_
    rintro e w1 ⟨rfl, hb⟩
    rw [HI.out]
    have K1 := Lib.hid (K0.out.step hb)
    have Q1 := Lib.hid (Q0.out.below hb)
    clear hb x0 x1
    obtain ⟨x0, x1⟩ := K1.out.box
    go_wp2_with fail
    have hc := hasKeys_any s ks w1 S _ a c a' c' ak ck K1.out.2 Q1.out
    rw [← HKL.out] at hc
    refine hc.mono ?_
    clear hc
    rintro e w2 ⟨rfl, hb⟩
    rw [HK.out]
    have K2 := Lib.hid (K1.out.step hb)
    clear hb x0 x1
    obtain ⟨x0, x1⟩ := K2.out.box
    go_wp2_with fail
    refine (implSafe_any s w2 S a c a' c' K2.out.2).mono ?_
    rintro e w3 ⟨rfl, hb⟩
    rw [HSF.out]
    have K3 := Lib.hid (K2.out.step hb)
    clear hb x0 x1
    go_wp2_with fail
    go_ret2
    exact HNO.out _ _ (by unfold rsB; rw [HSF.out]; simp) K3.out.done (World.ownsRow_nil _ _ _ _)
  have hok := (inOk_of hin).1
  have hmb : s.m.length ≤ 10 := (Sh.ok_iff.1 hok).1
  have HI := Lib.hid hin
  have HK := Lib.hid hkb
  have HOK := Lib.hid hok
  have HSF := Lib.hid hsf
  obtain ⟨n, hn⟩ : ∃ n, n = s.m.length := ⟨_, rfl⟩
  have HN := Lib.hid hn
  have hn10 : n ≤ 10 := by omega
  clear hin hkb hok hn hmb hsf
  go_enter Try.func27, Try.ntmps27
  go_wp2_with fail
  refine (implInputs_any s l _ S _ a c a' c' ai ci K0.out.2 L0.out).mono ?_
  rintro e w1 ⟨rfl, hb⟩
  rw [HI.out]
  have K1 := Lib.hid (K0.out.step hb)
  have L1 := Lib.hid (L0.out.below hb)
  have Q1 := Lib.hid (Q0.out.below hb)
  clear hb x0 x1 K0 L0 Q0
  obtain ⟨x0, x1⟩ := K1.out.box
  go_wp2_with fail
  have hc := hasKeys_any s ks w1 S _ a c a' c' ak ck K1.out.2 Q1.out
  rw [← HKL.out] at hc
  refine hc.mono ?_
  clear hc
  rintro e w2 ⟨rfl, hb⟩
  rw [HK.out]
  have K2 := Lib.hid (K1.out.step hb)
  have L2 := Lib.hid (L1.out.below hb)
  have Q2 := Lib.hid (Q1.out.below hb)
  clear hb x0 x1 K1 L1 Q1
  obtain ⟨x0, x1⟩ := K2.out.box
  go_wp2_with fail
  refine (implSafe_any s w2 S a c a' c' K2.out.2).mono ?_
  rintro e w2' ⟨rfl, hb⟩
  rw [HSF.out]
  have K2' := Lib.hid (K2.out.step hb)
  have L2' := Lib.hid (L2.out.below hb)
  have Q2' := Lib.hid (Q2.out.below hb)
  clear hb x0 x1 K2 L2 Q2
  obtain ⟨w2, hw2⟩ : ∃ w, w = w2' := ⟨_, rfl⟩
  subst hw2
  have K2 := K2'
  have L2 := L2'
  have Q2 := Q2'
  clear K2' L2' Q2'
  obtain ⟨x0, x1⟩ := K2.out.box
  have hs2 := K2.out.size
  have K2b := Lib.hid (K2.out.alloc (.cells #[.slice none 0 0] 30))
  have L2b := Lib.hid (L2.out.alloc (.cells #[.slice none 0 0] 30))
  have Q2b := Lib.hid (Q2.out.alloc (.cells #[.slice none 0 0] 30))
  have B2b := Lib.hid (Blk.new w2 30 #[.slice none 0 0])
  clear x0 x1 K2 L2 Q2
  obtain ⟨x0, x1⟩ := K2b.out.box
  go_wp2_with fail
  refine (nodes_any' s l _ S _ a c a' c' ai ci K2b.out.2 L2b.out HI.out).mono ?_
  rintro e w3 ⟨g, br, rfl, hb1, hg1, hnb, hp, hnd, hb⟩
  rw [← HN.out] at hp hnd hnb ⊢
  have hs3 := hb.size
  simp only [World.size_alloc] at hb1 hg1 hs3
  have hgw : n = 0 ∨ g + n ≤ w3.heap.size := by
    rcases Nat.eq_zero_or_pos n with h | h
    · exact .inl h
    · obtain ⟨_, _, hl, _⟩ := hnd.node (i := n - 1) (by omega)
      exact .inr (by omega)
  have hbl : n = 0 ∨ br < w3.heap.size := by
    rcases Nat.eq_zero_or_pos n with h | h
    · exact .inl h
    · exact .inr (cell_lt (hp.cell h))
  have ho3 : OrdAt w3 w2.heap.size w3.heap.size (.slice none 0 0) [] := ⟨B2b.out.below hb (by simp), World.ownsRow_nil _ _ _ _⟩
  have hnd2 := nds_start HOK.out hnd
  have hud : undone (fun k => !s.mdI k) n ≤ n := undone_le _ _
  have hu110 : undone (fun k => !s.mdI k) n * (n + 1) ≤ 110 := Nat.le_trans (Nat.mul_le_mul (Nat.le_trans hud hn10) (Nat.succ_le_succ hn10)) (by decide)
  have H3 := Lib.hid (And.intro hp (And.intro hnd2 (And.intro ((K2b.out.step hb).done) (And.intro (Q2b.out.below hb) (And.intro ho3 hu110)))))
  have HSB := Lib.hid (show ∀ b, (fun b => S b ∧ b < (w2.alloc (.cells #[.slice none 0 0] 30)).heap.size) b → b < g ∧ b ≠ w2.heap.size from fun b hb => by
    have := HSL.out b hb.1
    omega)
  have HNB := Lib.hid hnb
  clear hb hp hnd hnb ho3 hnd2 hud hu110 x0 x1 K2b L2b Q2b B2b
  go_wp2_with fail
  go_loopw [34] (fun i wr => ∃ (k : Nat) (d : Int → Bool) (v : Value) (tr : List Int), k ≤ KL ∧ i = .int .i64 k ∧ (∀ q, (!s.mdI q) = true → d q = true) ∧ (∀ q, d q = true → okS s l q = true) ∧ PRow wr br g n n ∧
    Nds wr (fun b => S b ∧ b < (w2.alloc (.cells #[.slice none 0 0] 30)).heap.size) s g n (mpv s g n) (fun q => if d q = true then vsS s l q else vf l q) d ∧ Below w.heap.size w wr ∧ IntsAt wr (fun b => S2 b ∧ b < w.heap.size) ks ak ck ∧ OrdAt wr w2.heap.size w3.heap.size v tr ∧
    tr.length + undone d n * (n + 1) ≤ 110 ∧ (∀ q o m, Ends emR (chS s l) d q o m → ∃ m', Ends emR (chS s l) (d0S s) (ks.take k ++ q) (tr ++ o) m') ∧ (∀ x ∈ ks.take k, okS s l x = true) ∧ w3.heap.size ≤ wr.heap.size) (fun i _ => KL - (intOf i).toNat)
  case atStart => exact ⟨0, fun k => !s.mdI k, _, [], by omega, rfl, fun _ h => h, fun k h => (gr_S HOK.out l).d0ok k h, H3.out.1, H3.out.2.1, H3.out.2.2.1, H3.out.2.2.2.1, H3.out.2.2.2.2.1, by simpa using H3.out.2.2.2.2.2, fun q o m h => ⟨m, h⟩, by simp, Nat.le_refl _⟩
  case round =>
    obtain ⟨k, d, v, tr, hk, rfl, hlo, hhi, hp, hnd, hbw, hki, hord, hlen, hsim, hall, hws⟩ := hrel
    have H4 := Lib.hid (And.intro hlo (And.intro hhi (And.intro hp (And.intro hnd (And.intro hbw (And.intro hki (And.intro hord (And.intro hlen (And.intro hsim hall)))))))))
    clear H3 hlo hhi hnd hbw hki hlen hsim hall
    by_cases hlt : k < KL
    · have hlt2 : k < ks.length := by have := HKL.out; omega
      obtain ⟨bk, ok, rfl, hbkl, _, hc⟩ := H4.out.2.2.2.2.2.1.get (Below.refl _ _) hlt2
      obtain ⟨key, hkey⟩ : ∃ key, key = ks[k] := ⟨_, rfl⟩
      have hkr : 0 ≤ key ∧ key < s.m.length := by
        have h := HK.out
        unfold hkB at h
        rw [List.all_eq_true] at h
        have h := h ks[k] (List.getElem_mem _)
        rw [decide_eq_true_eq] at h
        rw [hkey]; exact h
      obtain ⟨kn, rfl⟩ : ∃ kn : Nat, key = kn := ⟨key.toNat, by omega⟩
      have hkn : kn < n := by have := HN.out; omega
      rw [← hkey] at hc
      have HKEY := Lib.hid hkey
      have HL2 := Lib.hid hlt2
      have hcell := hp.cell hkn
      have hgn : g + n ≤ w3.heap.size := by rcases hgw with h | h <;> omega
      have hg := gr_S HOK.out l
      have hst := restart_step (bx := w2.heap.size) (base := w3.heap.size) (try_step (S := fun b => S b ∧ b < (w2.alloc (.cells #[.slice none 0 0] 30)).heap.size) (g := g) HI.out (fun b hb => (HSB.out b hb).1)) HSB.out (by omega) (by rw [← HN.out]; exact hgn)
      rw [← HN.out] at hg hst
      have hfin := finishJ_any hg hst hn10 (fun b hb => (HSB.out b hb).1) (by omega) (fun b hb => (HSB.out b hb).2) wr d kn v tr hkn H4.out.1 H4.out.2.1 H4.out.2.2.2.1 hord (by have := H4.out.2.2.2.2.2.2.2.1; omega) hws
      have HFIN := Lib.hid hfin
      clear hkey hkr hp hg hst hfin hord
      go_wp2_with fail
      refine HFIN.out.mono ?_
      rintro e w4 ⟨d2, ln, a4, c4, v4, X, rfl, hlc, hcm, hnd2, hdd, hdo, hord4, hown4, hfr, hcase⟩
      clear hcell hc HFIN
      have hordw := H4.out.2.2.2.2.2.2.1
      have hvl := World.ownsRow.lt hordw.2
      have hb4 : Below w.heap.size w w4 := H4.out.2.2.2.2.1.trans ⟨hfr.1, hfr.2.1, hfr.2.2.1, hfr.2.2.2.1, fun b hb => hfr.2.2.2.2 b (by have := H4.out.2.2.2.2.1.size; omega) (fun h => by
        rcases h with h | h | h
        · have := h.1; omega
        · omega
        · have := (hvl b h).1; omega)⟩
      have hs4 := hfr.size
      have hcase2 : ln = 0 ∧ d2 (kn : Int) = true ∧ Visit emR (chS s l) d kn X d2 ∧ X.length + undone d2 n * (n + 1) ≤ undone d n * (n + 1) := by
        rcases hcase with h | ⟨_, hnok⟩
        · exact h
        · rw [safe_oks HI.out HSF.out] at hnok; cases hnok
      obtain ⟨-, hdf, hvis, hlen⟩ := hcase2
      have hp4 := H4.out.2.2.1.fr hfr (ojB_no hordw (by omega) HNB.out (by rcases hbl with h | h <;> omega))
      have hk4 := H4.out.2.2.2.2.2.1.fr hfr (fun b hb => ojB_no hordw (by have := hb.2; omega) (fun h => by have := h.1; have := hb.2; omega) (by have := hb.2; omega))
      have hlen4 : (tr ++ X).length + undone d2 n * (n + 1) ≤ 110 := by rw [List.length_append]; have := H4.out.2.2.2.2.2.2.2.1; omega
      have hsim4 := sim_step HL2.out H4.out.2.2.2.2.2.2.2.2.1 (by rw [← HKEY.out]; exact hvis)
      have hall4 : ∀ x ∈ ks.take (k + 1), okS s l x = true := fun x _ => safe_oks HI.out HSF.out x
      have H5 := Lib.hid (And.intro (fun q hq => hdd q (H4.out.1 q hq)) (And.intro hdo (And.intro hp4 (And.intro hnd2 (And.intro hb4 (And.intro hk4 (And.intro hord4 (And.intro hlen4 (And.intro hsim4 hall4)))))))))
      clear hnd2 hdd hdo hord4 hown4 hfr hdf hvis hlen hordw hvl hb4 hp4 hk4 hlen4 hsim4 hall4 hcase
      go_wp2_with fail
      go_roundw
      case rel => exact ⟨k + 1, d2, v4, tr ++ X, by omega, by go_num, H5.out.1, H5.out.2.1, H5.out.2.2.1, H5.out.2.2.2.1, H5.out.2.2.2.2.1, H5.out.2.2.2.2.2.1, H5.out.2.2.2.2.2.2.1, H5.out.2.2.2.2.2.2.2.1, H5.out.2.2.2.2.2.2.2.2.1, H5.out.2.2.2.2.2.2.2.2.2, by omega⟩
      case measure => simp [intOf]; omega
    · have hq : ks.take k = ks := List.take_of_length_le (by have := HKL.out; omega)
      have hyes : rsB s l ks = true := by
        unfold rsB
        rw [HI.out, HK.out, HSF.out]; rfl
      have hends : ∃ m', Ends emR (chS s l) (d0S s) ks tr m' := by
        obtain ⟨m', h⟩ := H4.out.2.2.2.2.2.2.2.2.1 [] [] 0 (.nil d)
        rw [hq, List.append_nil, List.append_nil] at h
        exact ⟨m', h⟩
      have HY := Lib.hid (And.intro hyes hends)
      obtain ⟨y0, _⟩ := hord.1.one
      obtain ⟨av, cv, rfl, _⟩ := ElRow.at (f := Value.int .i64) (e := 3) hord.2
      clear hq hyes hends hord hp
      go_wp2_with fail
      go_ret2
      obtain ⟨m', h⟩ := HY.out.2
      exact HYES.out _ _ _ _ HY.out.1 h H4.out.2.2.2.2.1 (ownsRow_low H4.out.2.2.2.2.2.2.1.2 (by omega))
end Go.Proofs.Ytklmpagpkeffjaa

/- what restarting and suspending have in common, and how often a key is tried: plain words, no program -/
namespace Go.Proofs.Ytklmpagpkeffjaa
open Go.RowKit

/-- Who waits is told in the end. -/
theorem ends_mem {ch : Int → List Int} {d : Int → Bool} {q o : List Int} {m : Nat} (h : Ends emS ch d q o m) : ∀ k ∈ q, d k = false → k ∈ o := by
  induction h with
  | nil d => intro k hk; simp at hk
  | @skip d f q o m hf _ ih =>
    intro k hk hd
    rcases List.mem_cons.1 hk with rfl | hk
    · rw [hd] at hf; cases hf
    · exact ih k hk hd
  | @fin d f q o m hf hn _ ih =>
    intro k hk hd
    rw [List.mem_append]
    by_cases hkf : k = f
    · subst hkf; left; simp [emS]
    · right
      rcases List.mem_cons.1 hk with h | hk
      · exact absurd h hkf
      · exact ih k hk (by unfold upd; rw [hd, decide_eq_false hkf]; rfl)
  | @more d f j q o m hf hn _ ih =>
    intro k hk hd
    rw [List.mem_append]
    exact .inr (ih k (by rw [List.mem_cons]; exact .inr hk) hd)

/-- Suspending tells the same keys as restarting. -/
theorem ends_both {ch : Int → List Int} {d : Int → Bool} {q o : List Int} {m : Nat} (h : Ends emR ch d q o m) : ∃ o', Ends emS ch d q o' m ∧ (∀ x, x ∈ o ↔ x ∈ o') := by
  induction h with
  | nil d => exact ⟨[], .nil d, fun _ => Iff.rfl⟩
  | skip hf _ ih =>
    obtain ⟨o', h1, h2⟩ := ih
    exact ⟨o', .skip hf h1, h2⟩
  | @fin d f q o m hf hn _ ih =>
    obtain ⟨o', h1, h2⟩ := ih
    refine ⟨_, .fin hf hn h1, fun x => ?_⟩
    rw [List.mem_append, List.mem_append, h2 x]
    simp [emR, emS]
  | @more d f j q o m hf hn _ ih =>
    obtain ⟨o', h1, h2⟩ := ih
    refine ⟨_, .more hf hn h1, fun x => ?_⟩
    rw [List.mem_append, List.mem_append, h2 x]
    have hm := ends_mem h1 f (by simp) hf
    simp only [emR, emS, List.mem_singleton, reduceCtorEq, if_false, List.not_mem_nil, false_or]
    constructor
    · rintro (rfl | h)
      · exact hm
      · exact h
    · exact .inr

theorem rs_su {s : Sh} {l ks : List Int} (h : rsB s l ks = true) : suB s l ks = true ∧ baB s l = true ∧ ∀ x, x ∈ rsL s l ks ↔ x ∈ suL s l ks := by
  have h' := h
  unfold rsB at h
  rw [Bool.and_eq_true, Bool.and_eq_true] at h
  have hok := (inOk_of h.1.1).1
  have hoks := fun x => safe_oks (l := l) h.1.1 h.2 x
  have hsu : suB s l ks = true := by
    unfold suB
    rw [h.1.1, h.1.2, Bool.true_and, Bool.true_and, List.all_eq_true]
    exact fun x _ => hoks x
  refine ⟨hsu, ?_, ?_⟩
  · unfold baB baTo
    rw [h.1.1, Bool.true_and, List.all_eq_true]
    exact fun i _ => hoks _
  · obtain ⟨o, m, he, _⟩ := ends_all (em := emR) (gr_S hok l) emR_cnt ks (fun x _ => hoks x) (d0S s) (fun _ h => h) (fun x _ => hoks x)
    obtain ⟨o', he', hx⟩ := ends_both he
    unfold rsL suL
    rw [if_pos h', if_pos hsu, endsL_eq he, endsL_eq he']
    exact hx

theorem vf_ba {s : Sh} {l : List Int} (h : baB s l = true) {k : Int} (hk : 0 ≤ k) : vf (baL s l) k = vsS s l k := by
  have e : baL s l = baVs s l s.m.length := by unfold baL; rw [if_pos h]
  have hin : inOk s l = true := by unfold baB at h; rw [Bool.and_eq_true] at h; exact h.1
  obtain ⟨h1, h2, _⟩ := inOk_of hin
  rw [e]
  unfold vf
  rw [baVs_len]
  by_cases hlt : k < s.m.length
  · rw [if_pos hlt]
    unfold baVs
    rw [List.getD_eq_getElem?_getD, List.getElem?_map, List.getElem?_range (by omega)]
    simp only [Option.map_some, Option.getD_some]
    rw [show ((k.toNat : Nat) : Int) = k by omega]
  · rw [if_neg hlt]
    have hm : s.mdI k = false := by
      cases hx : s.mdI k
      · rfl
      · have := mdI_bd hx; omega
    rw [vsS_free h1 hm, vf_far (by omega)]

theorem rs_md {s : Sh} {l ks : List Int} : (∀ x ∈ rsL s l ks, s.mdI x = true) ∧ (rsB s l ks = false → rsL s l ks = []) := by
  constructor
  · intro x hx
    unfold rsL at hx
    split at hx
    · rename_i h
      unfold rsB at h
      rw [Bool.and_eq_true, Bool.and_eq_true] at h
      have hok := (inOk_of h.1.1).1
      obtain ⟨o, m, he, hc⟩ := ends_all (em := emR) (gr_S hok l) emR_cnt ks (fun x _ => safe_oks h.1.1 h.2 x) (d0S s) (fun _ h => h) (fun x _ => safe_oks h.1.1 h.2 x)
      rw [endsL_eq he] at hx
      exact (ends_bd hok hc).1 x hx
    · simp at hx
  · intro h
    unfold rsL
    rw [h, if_neg (by decide)]

/-- A key is tried no more often than it fetches keys, and once more. -/
theorem rs_cnt {s : Sh} {l ks : List Int} (h : rsB s l ks = true) (x : Int) : (rsL s l ks).count x ≤ (usesL ((s.tkI x).kys (vf (baL s l)))).length + 1 := by
  have hba := (rs_su h).2.1
  have h' := h
  unfold rsB at h
  rw [Bool.and_eq_true, Bool.and_eq_true] at h
  have hok := (inOk_of h.1.1).1
  have hoks := fun x => safe_oks (l := l) h.1.1 h.2 x
  obtain ⟨o, m, he, hc⟩ := ends_all (em := emR) (gr_S hok l) emR_cnt ks (fun x _ => hoks x) (d0S s) (fun _ h => h) (fun x _ => hoks x)
  unfold rsL
  rw [if_pos h', endsL_eq he]
  have hk : (s.tkI x).kys (vf (baL s l)) = chS s l x := by
    refine ((pre_keys (fun k => decide (0 ≤ k)) (vsS s l) (vf (baL s l)) (fun k hk => vf_ba hba (of_decide_eq_true hk)) (s.tkI x) (tkI_fit hok _)).2 (fun k hk => ?_)).2
    exact decide_eq_true ((T.kys_bd (vsS s l) (s.tkI x) (tkI_fit hok _)).1 k hk).1
  rw [hk]
  refine Nat.le_trans (hc x) ?_
  unfold cnt
  split
  · omega
  · have := List.length_filter_le (fun y => !d0S s y) (usesL (chS s l x))
    omega
end Go.Proofs.Ytklmpagpkeffjaa

/- spec.TaskFixed, impl.TaskFixed -/
namespace Go.Proofs.Ytklmpagpkeffjaa
open Go.RowKit

mutual
def T.fixed : T → Bool | .mk k _ ps => (decide (k ≠ 4) && decide (k ≠ 5)) && fixedL ps
def fixedL : List T → Bool | [] => true | t :: r => t.fixed && fixedL r
end
theorem fixedL_append : ∀ ps qs : List T, fixedL (ps ++ qs) = (fixedL ps && fixedL qs)
  | [], qs => by simp [fixedL]
  | t :: r, qs => by simp only [fixedL, List.cons_append, fixedL_append r qs, Bool.and_assoc]
theorem fixedL_snoc (ps : List T) (i : Nat) (h : i < ps.length) : fixedL (ps.take (i + 1)) = (fixedL (ps.take i) && ps[i].fixed) := by
  rw [List.take_succ_eq_append_getElem h, fixedL_append]; simp [fixedL]
theorem fixedL_false (ps : List T) (i : Nat) (h : i < ps.length) (hf : ps[i].fixed = false) : fixedL ps = false := by
  have h1 := fixedL_snoc ps i h
  have h2 := fixedL_append (ps.take (i + 1)) (ps.drop (i + 1))
  rw [List.take_append_drop] at h2
  rw [h2, h1, hf]; simp
theorem T.fixed_eq (t : T) : t.fixed = ((decide (t.k ≠ 4) && decide (t.k ≠ 5)) && fixedL t.ps) := by cases t; rfl

def T.fix (t : T) : Bool := t.ok && t.fixed

end Go.Proofs.Ytklmpagpkeffjaa

/- brInts -/
namespace Go.Proofs.Ytklmpagpkeffjaa
open Go.RowKit

/-- brInts of two readings of one list -/
theorem brInts_any (w : World) (S S' : Nat → Prop) (l : List Int) (a a' : Option Addr) (c c' : Nat) (h : IntsAt w S l a c) (h' : IntsAt w S' l a' c') :
    Calls Try.prog 19 #[.slice a l.length c, .slice a' l.length c'] w fun e w' => e = .returned (.bool true) ∧ Below w.heap.size w w' := by
  have hlen : l.length ≤ 9223372036854775807 := by have := h.1; have := h.2.1; omega
  have H := Lib.hid h
  have H' := Lib.hid h'
  clear h h'
  have hne : (((l.length : Nat) : Int) != ((l.length : Nat) : Int)) = false := by simp
  go_enter Try.func19, Try.ntmps19
  go_wp2_with fail
  clear hne
  go_loopw [5] (fun i wr => ∃ k : Nat, k ≤ l.length ∧ i = .int .i64 k ∧ Below w.heap.size w wr) (fun i _ => l.length - (intOf i).toNat)
  case atStart => exact ⟨0, by omega, rfl, Below.refl _ _⟩
  case round =>
    obtain ⟨k, hk, rfl, hb⟩ := hrel
    have HB := Lib.hid hb
    clear hb
    by_cases hlt : k < l.length
    · obtain ⟨b, o, rfl, hbl, _, hc⟩ := H.out.get HB.out hlt
      obtain ⟨b', o', rfl, hbl', _, hc'⟩ := H'.out.get HB.out hlt
      have hne : (l[k] != l[k]) = false := by simp
      obtain ⟨v, hv⟩ : ∃ v, v = l[k] := ⟨_, rfl⟩
      rw [← hv] at hc hc' hne
      clear hv
      go_wp2_with fail
      go_quiet (fail)
      go_wp2_with fail
      go_roundw
      case rel => exact ⟨k + 1, by omega, by go_num, below_drewN HB.out _⟩
      case measure => simp [intOf]; omega
    · go_wp2_with fail
      go_ret
      exact ⟨rfl, HB.out⟩
end Go.Proofs.Ytklmpagpkeffjaa

/- brInts; a fixed task fetches the same whatever values are; the walk of laws.FnTaskFixed -/
namespace Go.Proofs.Ytklmpagpkeffjaa
open Go.RowKit

theorem kys_fixed (vs vs' : Int → Int) : ∀ t : T, t.fit = true → t.fixed = true → t.kys vs = t.kys vs' := T.ind fun k n ps ih hf => by
  generalize ht : T.mk k n ps = t at hf ⊢
  refine T.cases_fit (P := fun t => t.fixed = true → t.kys vs = t.kys vs') t hf ?_ ?_ ?_ ?_ ?_ ?_
  · rintro n a0 a1 rfl _; simp only [kys_0]
  · rintro n a0 a1 rfl h; simp only [kys_1]
  · rintro a b ha hb rfl h; injection ht with _ _ hps; subst hps
    simp [T.fixed, fixedL] at h
    simp only [kys_2, ih a (by simp) ha h.1, ih b (by simp) hb h.2]
  · rintro a b ha hb rfl h; injection ht with _ _ hps; subst hps
    simp [T.fixed, fixedL] at h
    simp only [kys_3, ih a (by simp) ha h.1, ih b (by simp) hb h.2]
  · rintro a b c ha hb hc rfl h; simp [T.fixed] at h
  · rintro n a a0 a1 ha rfl h; simp [T.fixed] at h

theorem fives (w : World) : IntsAt (w.alloc (.cells #[.int .i64 5, .int .i64 5, .int .i64 5, .int .i64 5, .int .i64 5, .int .i64 5, .int .i64 5, .int .i64 5, .int .i64 5, .int .i64 5] 3)) (fun b => b = w.heap.size) [5, 5, 5, 5, 5, 5, 5, 5, 5, 5] (some ⟨w.heap.size, 0, none⟩) 10 := by
  refine ⟨by decide, by decide, by simp [i64ok], .inr ⟨w.heap.size, 0, rfl, rfl, fun i hi => ?_⟩⟩
  rw [World.cell?_alloc_new]
  have hi' : i < 10 := hi
  rcases (show i = 0 ∨ i = 1 ∨ i = 2 ∨ i = 3 ∨ i = 4 ∨ i = 5 ∨ i = 6 ∨ i = 7 ∨ i = 8 ∨ i = 9 by omega) with rfl | rfl | rfl | rfl | rfl | rfl | rfl | rfl | rfl | rfl <;> rfl

end Go.Proofs.Ytklmpagpkeffjaa

/- brHas, brAll; the walk of laws.FnTaskMay -/
namespace Go.Proofs.Ytklmpagpkeffjaa
open Go.RowKit

/-- brHas -/
theorem brHas_any (w : World) (S : Nat → Prop) (l : List Int) (a : Option Addr) (c : Nat) (n : Int) (h : IntsAt w S l a c) :
    Calls Try.prog 73 #[.slice a l.length c, .int .i64 n] w fun e w' => e = .returned (.bool (decide (n ∈ l))) ∧ w = w' := by
  have hlen : l.length ≤ 9223372036854775807 := by have := h.1; have := h.2.1; omega
  have H := Lib.hid h
  obtain ⟨r, hr⟩ : ∃ r, r = decide (n ∈ l) := ⟨_, rfl⟩
  have HR := Lib.hid hr
  rw [← hr]
  clear h hr
  go_enter Try.func73, Try.ntmps73
  go_wp2_with fail
  go_loop [5] (fun i => ∃ k : Nat, k ≤ l.length ∧ i = .int .i64 k ∧ ¬ n ∈ l.take k) (fun i => l.length - (intOf i).toNat)
  case atStart => exact ⟨0, by omega, rfl, by simp⟩
  case round =>
    obtain ⟨k, hk, rfl, hq⟩ := hrel
    have HQ := Lib.hid hq
    clear hq
    by_cases hlt : k < l.length
    · obtain ⟨b, o, rfl, hbl, _, hc⟩ := H.out.get (Below.refl _ _) hlt
      have HM := Lib.hid (mem_take_succ hlt n)
      have HE := Lib.hid (List.getElem_mem hlt)
      obtain ⟨v, hv⟩ : ∃ v, v = l[k] := ⟨_, rfl⟩
      rw [← hv] at hc
      have HVV := Lib.hid hv
      clear hv
      by_cases hvn : v = n
      · have hd : (v == n) = true := by simpa using hvn
        have hrt : r = true := by rw [HR.out, decide_eq_true_eq, ← hvn, HVV.out]; exact HE.out
        have HRT := Lib.hid hrt
        clear hrt hvn
        go_wp2_with fail
        go_ret
        exact ⟨ret_bool HRT.out.symm, rfl⟩
      · have hd : (v == n) = false := by simpa using hvn
        have HVN := Lib.hid hvn
        clear hvn
        go_wp2_with fail
        go_round
        case rel => exact ⟨k + 1, by omega, by go_num, fun h => by
          rcases HM.out.1 h with h | h
          · exact HQ.out h
          · exact HVN.out (by rw [HVV.out, h])⟩
        case measure => simp [intOf]; omega
    · have hrf : r = false := by
        have := HQ.out
        rw [List.take_of_length_le (by omega)] at this
        rw [HR.out]; exact decide_eq_false this
      have HRF := Lib.hid hrf
      clear hrf
      go_wp2_with fail
      go_ret
      exact ⟨ret_bool HRF.out.symm, rfl⟩

/-- brAll, where all are in -/
theorem brAll_any (w : World) (S S' : Nat → Prop) (l L : List Int) (a a' : Option Addr) (c c' : Nat) (h : IntsAt w S l a c) (h' : IntsAt w S' L a' c') (hin : ∀ x ∈ l, x ∈ L) :
    Calls Try.prog 25 #[.slice a l.length c, .slice a' L.length c'] w fun e w' => e = .returned (.bool true) ∧ w = w' := by
  have hlen : l.length ≤ 9223372036854775807 := by have := h.1; have := h.2.1; omega
  have H := Lib.hid h
  have H' := Lib.hid h'
  have HIN := Lib.hid hin
  clear h h' hin
  go_enter Try.func25, Try.ntmps25
  go_wp2_with fail
  go_loop [5] (fun i => ∃ k : Nat, k ≤ l.length ∧ i = .int .i64 k) (fun i => l.length - (intOf i).toNat)
  case atStart => exact ⟨0, by omega, rfl⟩
  case round =>
    obtain ⟨k, hk, rfl⟩ := hrel
    by_cases hlt : k < l.length
    · obtain ⟨b, o, rfl, hbl, _, hc⟩ := H.out.get (Below.refl _ _) hlt
      have hd : decide (l[k] ∈ L) = true := decide_eq_true (HIN.out _ (List.getElem_mem hlt))
      obtain ⟨v, hv⟩ : ∃ v, v = l[k] := ⟨_, rfl⟩
      rw [← hv] at hc hd
      have HD := Lib.hid hd
      clear hv hd
      go_wp2_with fail
      refine (brHas_any w S' L a' c' v H'.out).mono ?_
      rintro e w' ⟨rfl, rfl⟩
      rw [HD.out]
      go_wp2_with fail
      go_round
      case rel => exact ⟨k + 1, by omega, by go_num⟩
      case measure => simp [intOf]; omega
    · go_wp2_with fail
      go_ret
      exact ⟨rfl, rfl⟩

theorem mayL_get {q : Int} {ps : List T} {i : Nat} (h : i < ps.length) (hm : ps[i].may q = true) : mayL q ps = true := by
  have h1 := mayL_snoc q ps i h
  have h2 := mayL_append q (ps.take (i + 1)) (ps.drop (i + 1))
  rw [List.take_append_drop] at h2
  rw [h2, h1, hm]; simp
theorem mayO_mem {t : T} {q : Int} (h : t.ok = true) : q ∈ mayO t ↔ 0 ≤ q ∧ q < 10 ∧ t.may q = true := by
  unfold mayO
  rw [if_pos h, mayI_mem]
  exact Iff.rfl
theorem ok_part {t : T} (h : t.ok = true) {i : Nat} (hi : i < t.ps.length) : t.ps[i].ok = true := by
  simp only [T.ok, Bool.and_eq_true, decide_eq_true_eq] at h ⊢
  obtain ⟨h1, h2⟩ := h
  rw [T.fit_eq] at h1
  simp only [Bool.and_eq_true] at h1
  refine ⟨?_, ?_⟩
  · cases hf : t.ps[i].fit
    · have := fitL_false t.ps i hi hf; rw [h1.2] at this; cases this
    · rfl
  · have := T.nodes_le hi; have := t.nodes_eq; omega
theorem mayO_part {t : T} (h : t.ok = true) {i : Nat} (hi : i < t.ps.length) : ∀ x ∈ mayO t.ps[i], x ∈ mayO t := by
  intro x hx
  rw [mayO_mem (ok_part h hi)] at hx
  rw [mayO_mem h, T.may_eq]
  exact ⟨hx.1, hx.2.1, by rw [mayL_get hi hx.2.2]; simp⟩
theorem mayO_bd (t : T) : (∀ x ∈ mayO t, 0 ≤ x ∧ x < 10) ∧ (mayO t).length ≤ 10 := by
  unfold mayO
  split
  · exact ⟨fun x hx => by have := mayI_mem.1 hx; omega, mayI_len t 10⟩
  · simp
theorem mayO_asc (t : T) (i : Nat) (h : i + 1 < (mayO t).length) : (mayO t)[i] < (mayO t)[i + 1] := by
  have hp : (mayO t).Pairwise (· < ·) := by
    unfold mayO
    split
    · unfold mayI
      rw [List.pairwise_map]
      refine List.Pairwise.imp (R := fun a b : Nat => a < b) (fun h => by omega) ?_
      exact List.Pairwise.filter _ List.pairwise_lt_range
    · exact List.Pairwise.nil
  exact List.pairwise_iff_getElem.1 hp i (i + 1) (by omega) h (by omega)

end Go.Proofs.Ytklmpagpkeffjaa

/- the walk of laws.FnOrderRestart -/
namespace Go.Proofs.Ytklmpagpkeffjaa
open Go.RowKit

theorem count_snoc {l : List Int} {k : Nat} (h : k < l.length) (x : Int) : (l.take (k + 1)).count x = (l.take k).count x + (if l[k] = x then 1 else 0) := by
  rw [List.take_succ_eq_append_getElem h, List.count_append, List.count_singleton]
  congr 1
  by_cases he : l[k] = x
  · rw [if_pos he]; simp [he]
  · rw [if_neg he]; simp [he]
theorem count_le_len (l : List Int) (x : Int) : l.count x ≤ l.length := List.count_le_length

set_option maxRecDepth 100000 in
set_option maxHeartbeats 2000000 in
theorem walk_orderRestart (w : World) (a : Option Addr) (n c : Nat) (h : CodeAt w a n c) :
    Calls Try.prog 6 #[.slice a n c] w fun e w' => e = .returned (.bool true) ∧ Below w.heap.size w w' := by
  have hn := h.1
  have hc := h.2.1
  have HC := Lib.hid h
  clear h
  by_cases hl : 1048576 < n
  · go_enter Try.func6, Try.ntmps6
    go_wp2_with fail
    go_ret
    exact ⟨rfl, Below.refl _ _⟩
  go_enter Try.func6, Try.ntmps6
  go_wp2_with fail
  refine (drawRestart_any _ a n c HC.out).mono ?_
  rintro e w1 ⟨s, av, cv, a', c', l, ai, ci, ks, ak, ck, rfl, hat, hin, hik, htl, hml, hnl, hll, hkl, hb⟩
  have hsz1 := hb.size
  have HT1 := Lib.hid (hat.alloc (.cells #[.slice av s.m.length cv, .slice a' s.t.length c'] 26))
  have HI1 := Lib.hid (hin.alloc (.cells #[.slice av s.m.length cv, .slice a' s.t.length c'] 26))
  have HQ1 := Lib.hid (hik.alloc (.cells #[.slice av s.m.length cv, .slice a' s.t.length c'] 26))
  have HB1 := Lib.hid (Blk.new w1 26 #[.slice av s.m.length cv, .slice a' s.t.length c'])
  have HX1 := Lib.hid (hb.alloc hsz1 (.cells #[.slice av s.m.length cv, .slice a' s.t.length c'] 26))
  have HTL := Lib.hid htl
  obtain ⟨R, hR⟩ : ∃ R, R = rsL s l ks := ⟨_, rfl⟩
  obtain ⟨z, hz⟩ : ∃ z, z = rsB s l ks := ⟨_, rfl⟩
  obtain ⟨U, hU⟩ : ∃ U, U = suL s l ks := ⟨_, rfl⟩
  obtain ⟨u, hu⟩ : ∃ u, u = suB s l ks := ⟨_, rfl⟩
  obtain ⟨V, hV⟩ : ∃ V, V = baL s l := ⟨_, rfl⟩
  obtain ⟨y, hy⟩ : ∃ y, y = baB s l := ⟨_, rfl⟩
  have hRb := rsL_bd s l ks
  have hUb := suL_bd s l ks
  have hVb := baL_bd s l
  rw [← hR] at hRb
  rw [← hU] at hUb
  rw [← hV] at hVb
  have HUR := Lib.hid (show ∀ w e w', OrP (rsB s l ks) (rsL s l ks) w e w' → Below w.heap.size w w' ∧ ∃ (a : Option Addr) (c : Nat), e = .returned (.tuple #[.slice a R.length c, .bool z]) ∧ IntsAt w' (fun b => w.heap.size ≤ b) R a c from by
    rintro w e w' ⟨hb, v, rfl, hr⟩
    rw [← hR] at hr
    obtain ⟨a, c, rfl, hi⟩ := hr.at (fun x hx => by have := hRb.1 x hx; unfold i64ok; omega)
    exact ⟨hb, a, c, by rw [hz], hi⟩)
  have HUS := Lib.hid (show ∀ w e w', OrP (suB s l ks) (suL s l ks) w e w' → Below w.heap.size w w' ∧ ∃ (a : Option Addr) (c : Nat), e = .returned (.tuple #[.slice a U.length c, .bool u]) ∧ IntsAt w' (fun b => w.heap.size ≤ b) U a c from by
    rintro w e w' ⟨hb, v, rfl, hr⟩
    rw [← hU] at hr
    obtain ⟨a, c, rfl, hi⟩ := hr.at (fun x hx => by have := hUb.1 x hx; unfold i64ok; omega)
    exact ⟨hb, a, c, by rw [hu], hi⟩)
  have HUV := Lib.hid (show ∀ w e w', BaPost s l w e w' → Below w.heap.size w w' ∧ ∃ (a : Option Addr) (c : Nat), e = .returned (.tuple #[.slice a V.length c, .bool y]) ∧ IntsAt w' (fun b => w.heap.size ≤ b) V a c from by
    rintro w e w' ⟨hb, v, rfl, hr⟩
    rw [← hV] at hr
    obtain ⟨a, c, rfl, hi⟩ := hr.at (fun x hx => by have := hVb.1 x hx; unfold i64ok; omega)
    exact ⟨hb, a, c, by rw [hy], hi⟩)
  have HR := Lib.hid (And.intro hR hz)
  have HU := Lib.hid (And.intro hU hu)
  have HV := Lib.hid (And.intro hV hy)
  have hRl : R.length ≤ 160 := hRb.2
  have hVl : V.length ≤ 10 := hVb.2
  have HRB := Lib.hid hRb.1
  clear hat hin hik hb HC htl hR hz hU hu hV hy hRb hUb hVb
  go_wp2_with fail
  refine (implRestart_any s l ks _ _ _ _ av cv a' c' ai ci ak ck HT1.out HI1.out HQ1.out).mono ?_
  intro e w2 hp
  obtain ⟨hb, a2, c2, rfl, hi2⟩ := HUR.out _ _ _ hp
  have hsz2 := hb.size
  simp only [World.size_alloc] at hsz2
  have HT2 := Lib.hid (HT1.out.below hb)
  have HI2 := Lib.hid (HI1.out.below hb)
  have HQ2 := Lib.hid (HQ1.out.below hb)
  have HB2 := Lib.hid (HB1.out.below hb (by simp))
  have HX2 := Lib.hid (HX1.out.trans (hb.mono (by simp; omega)))
  have HL2 := Lib.hid hi2
  clear hb hp hi2 HT1 HI1 HQ1 HB1 HX1
  obtain ⟨x0, x1, f0, f1⟩ := HB2.out.two
  go_wp2_with fail
  refine (specRestart_any s l ks _ _ _ _ av cv a' c' ai ci ak ck HT2.out (by omega) HI2.out HQ2.out (by omega)).mono ?_
  intro e w3 hp
  obtain ⟨hb, a3, c3, rfl, hi3⟩ := HUR.out _ _ _ hp
  have hsz3 := hb.size
  have HT3 := Lib.hid (HT2.out.below hb)
  have HI3 := Lib.hid (HI2.out.below hb)
  have HQ3 := Lib.hid (HQ2.out.below hb)
  have HB3 := Lib.hid (HB2.out.below hb (by omega))
  have HX3 := Lib.hid (HX2.out.trans (hb.mono (by omega)))
  have HL3 := Lib.hid (HL2.out.below hb)
  have HM3 := Lib.hid hi3
  clear hb hp hi3 HT2 HI2 HQ2 HB2 HX2 HL2 x0 x1 f0 f1
  have hnb : (z != z) = false := by simp
  go_wp2_with fail
  refine (brInts_any _ _ _ R a2 a3 c2 c3 HL3.out HM3.out).mono ?_
  rintro e w4 ⟨rfl, hb⟩
  have hsz4 := hb.size
  have HT4 := Lib.hid (HT3.out.below hb)
  have HI4 := Lib.hid (HI3.out.below hb)
  have HQ4 := Lib.hid (HQ3.out.below hb)
  have HB4 := Lib.hid (HB3.out.below hb (by omega))
  have HX4 := Lib.hid (HX3.out.trans (hb.mono (by omega)))
  have HL4 := Lib.hid (HL3.out.below hb)
  clear hb HT3 HI3 HQ3 HB3 HX3 HL3 HM3
  obtain ⟨x0, x1, f0, f1⟩ := HB4.out.two
  go_wp2_with fail
  clear hnb
  refine (implSuspend_any s l ks _ _ _ _ av cv a' c' ai ci ak ck HT4.out HI4.out HQ4.out).mono ?_
  intro e w5 hp
  obtain ⟨hb, a5, c5, rfl, hi5⟩ := HUS.out _ _ _ hp
  have hsz5 := hb.size
  have HT5 := Lib.hid (HT4.out.below hb)
  have HI5 := Lib.hid (HI4.out.below hb)
  have HB5 := Lib.hid (HB4.out.below hb (by omega))
  have HX5 := Lib.hid (HX4.out.trans (hb.mono (by omega)))
  have HL5 := Lib.hid (HL4.out.below hb)
  have HS5 := Lib.hid hi5
  clear hb hp hi5 HT4 HI4 HQ4 HB4 HX4 HL4 x0 x1 f0 f1
  obtain ⟨x0, x1, f0, f1⟩ := HB5.out.two
  go_wp2_with fail
  refine (implAll_any s l _ _ _ av cv a' c' ai ci HT5.out HI5.out).mono ?_
  intro e w6 hp
  obtain ⟨hb, a6, c6, rfl, hi6⟩ := HUV.out _ _ _ hp
  have hsz6 := hb.size
  have HT6 := Lib.hid (HT5.out.below hb)
  have HB6 := Lib.hid (HB5.out.below hb (by omega))
  have HX6 := Lib.hid (HX5.out.trans (hb.mono (by omega)))
  have HL6 := Lib.hid (HL5.out.below hb)
  have HS6 := Lib.hid (HS5.out.below hb)
  have HV6 := Lib.hid hi6
  clear hb hp hi6 HT5 HI5 HB5 HX5 HL5 HS5 x0 x1 f0 f1
  go_wp2_with fail
  go_loopw [14, 15, 16, 17, 18] (fun i _ _ _ _ wr => ∃ k : Nat, k ≤ R.length ∧ i = .int .i64 k ∧ Below w6.heap.size w6 wr) (fun i _ _ _ _ _ => R.length - (intOf i).toNat)
  case atStart => exact ⟨0, by omega, rfl, Below.refl _ _⟩
  case round =>
    obtain ⟨k, hk, rfl, hb⟩ := hrel
    obtain ⟨wo, hwo⟩ : ∃ x, x = wr := ⟨_, rfl⟩
    subst hwo
    have hszr := hb.size
    have HXR := Lib.hid (HX6.out.trans (hb.mono (by omega)))
    have HBW := Lib.hid hb
    have HTR := Lib.hid (HT6.out.below hb)
    have HBR := Lib.hid (HB6.out.below hb (by omega))
    have HLR := Lib.hid (HL6.out.below hb)
    have HSR := Lib.hid (HS6.out.below hb)
    have HVR := Lib.hid (HV6.out.below hb)
    obtain ⟨RL, hRL⟩ : ∃ n, n = R.length := ⟨_, rfl⟩
    have HRL := Lib.hid hRL
    rw [← hRL] at hk ⊢
    have hRL160 : RL ≤ 160 := by omega
    clear hb hRL
    obtain ⟨x0, x1, f0, f1⟩ := HBR.out.two
    by_cases hlt : k < RL
    · have hlt2 : k < R.length := by have := HRL.out; omega
      have hzt : z = true := by
        cases hz : z
        · exfalso
          have h1 := rs_md (s := s) (l := l) (ks := ks)
          have h2 := h1.2 (by rw [← HR.out.2, hz])
          rw [← HR.out.1] at h2
          rw [h2] at hlt2; simp at hlt2
        · rfl
      subst hzt
      have hrs : rsB s l ks = true := HR.out.2.symm
      obtain ⟨_, hba, _⟩ := rs_su hrs
      obtain ⟨x, hx⟩ : ∃ x, x = R[k] := ⟨_, rfl⟩
      have hxm : s.mdI x = true := rs_md.1 x (by rw [← HR.out.1, hx]; exact List.getElem_mem _)
      have hxb := mdI_bd hxm
      obtain ⟨xn, rfl⟩ : ∃ xn : Nat, x = xn := ⟨x.toNat, by omega⟩
      have hxn : xn < s.m.length := by omega
      have hcnt := rs_cnt hrs (xn : Int)
      rw [← HR.out.1, ← HV.out.1] at hcnt
      have HCNT := Lib.hid hcnt
      have HBA := Lib.hid hba
      have hcell : ∀ w', Below wo.heap.size wo w' → ∃ b o, a2 = some ⟨b, o, none⟩ ∧ b < w'.heap.size ∧ w'.cell? ⟨b, o + k, none⟩ = some (.int .i64 (xn : Int)) := fun w' hb => by
        obtain ⟨b, o, h1, h2, _, h3⟩ := HLR.out.get hb hlt2
        exact ⟨b, o, h1, Nat.lt_of_lt_of_le h2 hb.size, by rw [hx]; exact h3⟩
      have HCL := Lib.hid hcell
      obtain ⟨bR, oR, haR, hbR, hcR⟩ := hcell wo (Below.refl _ _)
      have HAR := Lib.hid haR
      have HL2 := Lib.hid hlt2
      clear hrs hba hxm hxb hcnt hx hcell haR hlt2
      obtain rfl := HAR.out
      clear hcR
      go_wp2_with fail
      go_loopw [15, 16] (fun nv j wq => ∃ q : Nat, q ≤ RL ∧ j = .int .i64 q ∧ nv = .int .i64 (((R.take q).count (xn : Int) : Nat) : Int) ∧ Below wo.heap.size wo wq) (fun _ j _ => RL - (intOf j).toNat)
      case atStart => exact ⟨0, by omega, rfl, by simp, Below.refl _ _⟩
      case round =>
        obtain ⟨q, hq, rfl, rfl, hbq⟩ := hrel
        have HBQ := Lib.hid hbq
        obtain ⟨b1, o1, ha1, hb1, hc1⟩ := HCL.out wr hbq
        obtain ⟨rfl, rfl⟩ : bR = b1 ∧ oR = o1 := by injection ha1 with h; injection h with h1 h2; exact ⟨h1, h2⟩
        have hszq := hbq.size
        obtain ⟨C, hC⟩ : ∃ C, C = (R.take q).count (xn : Int) := ⟨_, rfl⟩
        have HCC := Lib.hid hC
        rw [← hC]
        have hCl : C ≤ 160 := by
          rw [hC]
          have h1 := count_le_len (R.take q) (xn : Int)
          rw [List.length_take] at h1
          have := HRL.out
          omega
        clear hbq ha1 hC
        by_cases hlq : q < RL
        · have hlq2 : q < R.length := by have := HRL.out; omega
          obtain ⟨b2, o2, ha2, hb2, _, hc2⟩ := (HLR.out.below HBQ.out).get (Below.refl _ _) hlq2
          obtain ⟨rfl, rfl⟩ : bR = b2 ∧ oR = o2 := by injection ha2 with h; injection h with h1 h2; exact ⟨h1, h2⟩
          have HSN := Lib.hid (count_snoc hlq2 (xn : Int))
          obtain ⟨xq, hxq⟩ : ∃ xq, xq = R[q] := ⟨_, rfl⟩
          rw [← hxq] at hc2
          have HXQ := Lib.hid hxq
          clear ha2 hxq
          by_cases he : xq = (xn : Int)
          · subst he
            have hd : ((xn : Int) == (xn : Int)) = true := by simp
            have hsn : (R.take (q + 1)).count (xn : Int) = C + 1 := by rw [HSN.out, ← HXQ.out, if_pos rfl, HCC.out]
            have HS2 := Lib.hid hsn
            clear hsn
            go_wp2_with fail
            go_quiet (fail)
            revert nq
            intro n1
            go_wp2_with fail
            go_roundw
            case rel => exact ⟨q + 1, by omega, by go_num, by rw [HS2.out]; go_num, below_drewN HBQ.out _⟩
            case measure => simp [intOf]; omega
          · have hd : (xq == (xn : Int)) = false := by simpa using he
            have hsn : (R.take (q + 1)).count (xn : Int) = C := by rw [HSN.out, ← HXQ.out, if_neg he, HCC.out]; omega
            have HS2 := Lib.hid hsn
            clear hsn he
            go_wp2_with fail
            go_quiet (fail)
            revert nq
            intro n1
            go_wp2_with fail
            go_roundw
            case rel => exact ⟨q + 1, by omega, by go_num, by rw [HS2.out], below_drewN HBQ.out _⟩
            case measure => simp [intOf]; omega
        · have hCR : C = R.count (xn : Int) := by rw [HCC.out, List.take_of_length_le (by have := HRL.out; omega)]
          have HCR := Lib.hid hCR
          have hkt : xn < s.t.length := by have := HTL.out; omega
          obtain ⟨b', o', a7, c7, rfl, hbl', hSb', e0, e1, e2, hatt, _, _⟩ := (HTR.out.below HBQ.out).2.elem (Below.refl _ _) hkt
          have htk : s.t[xn] = s.tkI (xn : Int) := by unfold Sh.tkI; rw [Int.toNat_natCast]; exact (getD_len hkt).symm
          rw [htk] at hatt e0 e1 e2
          obtain ⟨x0, x1, f0, f1⟩ := (HBR.out.below HBQ.out HBR.out.lt).two
          have hun := implUses_any (s.tkI (xn : Int)) V wr.drew _ _ a7 a6 c7 c6 (hatt.below (show Below wr.heap.size wr wr.drew from (Below.refl _ _).drew)) ((HVR.out.below HBQ.out).drewN 1)
          have HUN := Lib.hid hun
          clear hCR hatt htk hun hSb'
          go_wp2_with fail
          go_region_with (go_at_call 29; refine HUN.out.mono ?_; rintro e w8 ⟨hb8, v8, rfl, hr8⟩)
          all_goals
            have htok := tkI_ok HBA.out (xn : Int)
            rw [← HV.out.1] at htok
            rw [if_pos htok] at hr8
            have hkys := kys_ok htok
            obtain ⟨us, hus⟩ : ∃ us, us = usesL ((s.tkI (xn : Int)).kys (vf V)) := ⟨_, rfl⟩
            have hul : us.length ≤ 15 := by
              rw [hus]
              have := usesL_len ((s.tkI (xn : Int)).kys (vf V))
              omega
            rw [← hus] at hr8
            obtain ⟨au, cu, rfl, hiu⟩ := ElRow.at (f := Value.int .i64) (e := 3) hr8
            have hlen : C ≤ us.length + 1 := by rw [HCR.out, hus]; exact HCNT.out
            have HB8 := Lib.hid (show Below w6.heap.size w6 w8 from (HBW.out.trans (HBQ.out.mono hszr)).trans ((show Below wr.heap.size wr wr.drew from (Below.refl _ _).drew).trans (hb8.mono (Nat.le_refl _)) |>.mono (by omega)))
            have hw : IntKind.i64.wrap ((us.length : Int) + 1) = (us.length : Int) + 1 := IntWalk.i64_in _ ⟨by omega, by omega⟩
            have hd1 : decide ((us.length : Int) + 1 < (C : Int)) = false := decide_eq_false (by omega)
            have hd2 : decide (us.length + 1 < C) = false := decide_eq_false (by omega)
            clear hb8 htok hkys hus hr8 hiu e0 e1 e2 HUN
            go_wp2_with fail
            go_roundw
            case rel => exact ⟨k + 1, by omega, by go_num, HB8.out⟩
            case measure => simp [intOf]; omega
    · have hkR : k = RL := by omega
      cases hz : z
      · subst hz
        go_wp2_with fail
        go_ret
        exact ⟨rfl, HXR.out⟩
      · have hrs : rsB s l ks = true := by rw [← HR.out.2]; exact hz
        obtain ⟨_, _, hmem⟩ := rs_su hrs
        rw [← HR.out.1, ← HU.out.1] at hmem
        have hm1 := brAll_any wo _ _ R U a2 a5 c2 c5 HLR.out HSR.out (fun x hx => (hmem x).1 hx)
        have hm2 := brAll_any wo _ _ U R a5 a2 c5 c2 HSR.out HLR.out (fun x hx => (hmem x).2 hx)
        rw [← HRL.out] at hm1 hm2
        have HM1 := Lib.hid hm1
        have HM2 := Lib.hid hm2
        subst hz
        clear hmem hrs hkR hm1 hm2
        go_wp2_with fail
        refine HM1.out.mono ?_
        rintro e w8 ⟨rfl, rfl⟩
        go_wp2_with fail
        refine HM2.out.mono ?_
        rintro e w8 ⟨rfl, rfl⟩
        go_wp2_with fail
        go_ret
        exact ⟨rfl, HXR.out⟩
end Go.Proofs.Ytklmpagpkeffjaa

/- For every code the law FnOrderRestart answers true: OrderRestart answers as its model, no key is tried more often than its task fetches keys and once more, and the keys are those that suspending builds. No condition. -/
namespace Go.Proofs.Ytklmpagpkeffjaa
open Go.ChangeShapes Go.WideShapes Go.ChangeAt Go.RowKit Go.Joins

set_option maxRecDepth 100000 in
theorem orderRestart_lifted (os : Os) (started : os.Started) (H : Type) (enc : TypeId × Value → H) :
    ReturnsInHanded {} Try.checked os 6 .any (Rows.fnOrderRestartSpec.pre6 enc Try.prog Try.f6 Rows.fnOrderRestartRow.domain false) (Rows.fnOrderRestartSpec.post enc Try.prog Try.f6 false true false false) := by
  refine returnsInHanded_of_change (C := Try.checked) own started (by kernel_rfl) Try.func6
    (ChangeSpec.witness6 (enc := enc) (C := Try.checked) false ⟨#[], #[.slice none 0 0], []⟩ 8 (by kernel_rfl) (by kernel_rfl) (by kernel_rfl) (by kernel_rfl)) ?_
  intro W base args ds gs before hval0 hW _ _
  have hval : ∀ (j : Nat) t v, Try.f6.params[j]? = some t → args[j]? = some v → Value.okWide Try.prog W .any base t v := hval0
  have hW' := hW
  obtain ⟨p, q, hA0, hV, rfl, _, _⟩ := hW
  have hA : DataW.TrodAll enc Try.prog W 0 (fun _ => true) true Try.f6.params.toList args.toList ds p := hA0
  rw [Try.params6] at hA hval
  obtain ⟨v0, d0, rfl, rfl, h0⟩ := trodAll_one hA
  obtain ⟨rfl, rfl⟩ := trodVars_none hV
  obtain ⟨a, n, c, rfl, hcode⟩ := open_code Try.underlying22 Try.underlying5 cellsByte (okWide_slice Try.underlying22 (hval 0 22 v0 rfl rfl)) h0
  refine (walk_orderRestart W a n c hcode).mono fun e W' ⟨he, hb⟩ => ?_
  subst he
  exact ⟨_, rfl, law_post laidOut rfl rfl Try.underlying4 (by intro t ht; rw [Try.params6] at ht; simp at ht; subst ht; exact ⟨by kernel_rfl, of_decide_eq_true (by kernel_rfl)⟩) rfl rfl rfl hW' hb⟩

theorem orderRestart_holds : Rows.FnOrderRestartSaid :=
  OpenClaim.holds_of_wide 6 Try.f6 rfl rfl rfl rfl rfl rfl rfl ⟨rfl, rfl, rfl, rfl, rfl⟩ rfl rfl rfl rfl rfl (by kernel_rfl) Try.func6 (by kernel_rfl)
    (of_decide_eq_true (by kernel_rfl)) (by unfold Func.isWrapper; first | (rw [if_pos (by decide +kernel)]; kernel_rfl) | (rw [if_neg (by decide +kernel)]; exact ⟨rfl, rfl⟩))
    (fun os started H enc _ => orderRestart_lifted os started H enc)
#print axioms orderRestart_holds
end Go.Proofs.Ytklmpagpkeffjaa
