/- several texts in one (made by bundle.py): Open, RowKit, OpenCode, Inputs, DrawBK, BuildI, BuildS, AllS, AllI, Bnds, LawDBK, BrInts, LawDBA, BuildAll -/
import Derived.Test.YtohogojphnlhpaaRows
import Derived.Test.YtohogojphnlhpaaTree
import Derived.ProofKit
import Derived.Lib.SmallJoins
import Derived.Deep.Slices
import Derived.Test.YtohogojphnlhpaaDraw4
import Derived.Test.YtohogojphnlhpaaShD
import Derived.Test.YtohogojphnlhpaaDrawV
import Derived.Test.YtohogojphnlhpaaSheetD
import Derived.Test.YtohogojphnlhpaaShG
import Derived.Test.YtohogojphnlhpaaKeyM
import Derived.Test.YtohogojphnlhpaaFromS
import Derived.Test.YtohogojphnlhpaaFrom
import Derived.Test.YtohogojphnlhpaaVals
import Derived.Test.YtohogojphnlhpaaL2
/- A task that came in as an argument: its reading opened to a tree -/
namespace Go.Proofs.Ytohogojphnlhpaa
open Go.ChangeShapes Go.WideShapes Go.ChangeAt Go.RowKit Go.Joins

theorem i64ok_of {n : Int} (h : (Lit.int .i64 n).wf = true) : i64ok n := by
  have := WalkArith.wf_i64 (n := n)
  unfold i64ok
  simp [Lit.wf] at h
  exact ⟨h.1, by omega⟩

theorem AtL.of_each {w : World} {S : Nat → Prop} {b o : Nat} : ∀ n, (∀ i, i < n → ∃ t, AtC w S t b (o + 3 * i)) → ∃ ps : List T, ps.length = n ∧ AtL w S ps b o
  | 0, _ => ⟨[], rfl, by simp [AtL]⟩
  | n + 1, h => by
    obtain ⟨ps, hl, hat⟩ := AtL.of_each n (fun i hi => h i (by omega))
    obtain ⟨t, ht⟩ := h n (by omega)
    exact ⟨ps ++ [t], by simp [hl], AtL.snoc hat (by rw [hl]; exact ht)⟩

section
variable {H : Type} {enc : TypeId × Value → H} {P : Program} {w : World} {base : Nat} {spare : Nat → Bool} {held : Bool} {tS tE tI : TypeId} {f0 f1 f2 : Field}

theorem open_tasks (hI : P.underlying tI = some (.int .i64)) (hcI : P.cellsOf tI = 1) (hS : P.underlying tS = some (.slice tE)) (hcS : P.cellsOf tS = 1) (hE : P.underlying tE = some (.struct #[f0, f1, f2])) (hC : P.cellsOf tE = 3)
    (h0 : f0.type = tI ∧ f0.offset = 0) (h1 : f1.type = tI ∧ f1.offset = 1) (h2 : f2.type = tS ∧ f2.offset = 2) :
    ∀ (fuel : Nat) (v : Value) (x : DataW H × List MemPlace), DataW.trod enc P w base spare held fuel tS [v] = some x → ∃ ps a c, v = .slice a (List.length ps) c ∧ AtS w (fun _ => True) ps a c := by
  intro fuel
  induction fuel using Nat.strongRecOn with
  | _ fuel ih =>
  intro v x h
  rcases DataW.trod_slice hS h with ⟨hv, _⟩ | ⟨a, len, cap, elems, rest, n, hf, hv, _, _, hl, hm, hlen, hel, _, _⟩
  · simp only [List.cons.injEq, and_true] at hv
    exact ⟨[], none, 0, by simpa using hv, by simp [AtS]⟩
  simp only [List.cons.injEq, and_true] at hv
  subst hv
  have hm' : cap ≤ 9223372036854775807 := hm
  by_cases hz : len = 0
  · subst hz
    exact ⟨[], some a, cap, rfl, by simp, hm', .inl rfl⟩
  have each : ∀ i, i < len → ∃ k m ps a' c', i64ok k ∧ i64ok m ∧ w.cell? (a.add (i * 3)) = some (.int .i64 k) ∧ w.cell? (a.add (i * 3 + 1)) = some (.int .i64 m) ∧ w.cell? (a.add (i * 3 + 2)) = some (.slice a' (List.length ps) c') ∧ AtS w (fun _ => True) ps a' c' := by
    intro i hi
    have he := hel i hi
    rw [hC] at he
    have hs : elems[i]? = some (elems[i]'(by omega)) := List.getElem?_eq_getElem (by omega)
    rw [hs, Option.bind_eq_some_iff] at he
    obtain ⟨cs, hcs, htr⟩ := he
    obtain ⟨_, hcl, hat⟩ := World.cells?_some hcs
    obtain ⟨c0, c1, c2, rfl⟩ : ∃ c0 c1 c2, cs = [c0, c1, c2] := by
      match cs, hcl with
      | [c0, c1, c2], _ => exact ⟨c0, c1, c2, rfl⟩
    obtain ⟨ys, n', hn', _, _, hyl, hfd⟩ := DataW.trod_struct hE htr
    have y0 := hfd 0 f0 rfl
    have y1 := hfd 1 f1 rfl
    have y2 := hfd 2 f2 rfl
    rw [h0.1, h0.2, hcI, List.getElem?_eq_getElem (by simp at hyl; omega)] at y0
    rw [h1.1, h1.2, hcI, List.getElem?_eq_getElem (by simp at hyl; omega)] at y1
    rw [h2.1, h2.2, hcS, List.getElem?_eq_getElem (by simp at hyl; omega)] at y2
    obtain ⟨k, e0, _, wk⟩ := DataW.trod_int hI y0
    obtain ⟨m, e1, _, wm⟩ := DataW.trod_int hI y1
    obtain ⟨ps, a', c', e2, hps⟩ := ih n' (by omega) c2 _ y2
    simp at e0 e1
    subst e0 e1 e2
    have g0 := hat 0 (by omega)
    have g1 := hat 1 (by omega)
    have g2 := hat 2 (by omega)
    rw [Go.Deep.add_add] at g0 g1 g2
    exact ⟨k, m, ps, a', c', i64ok_of wk, i64ok_of wm, g0, g1, g2, hps⟩
  have hsp : a.spot = none := by
    obtain ⟨_, _, _, _, _, _, _, g0, _⟩ := each 0 (by omega)
    obtain ⟨ab, ao, asp⟩ := a
    cases asp with
    | none => rfl
    | some y =>
      exfalso
      simp [Addr.add, World.cell?] at g0
      split at g0 <;> simp at g0
  obtain ⟨ab, ao, asp⟩ := a
  simp only at hsp
  subst hsp
  obtain ⟨ps, hpl, hat⟩ := AtL.of_each (w := w) (S := fun _ => True) (b := ab) (o := ao) len (fun i hi => by
    obtain ⟨k, m, ps, a', c', ok1, ok2, g0, g1, g2, hps⟩ := each i hi
    have ea : ∀ j, Addr.add ⟨ab, ao, none⟩ j = ⟨ab, ao + j, none⟩ := by intro j; unfold Addr.add; split <;> simp_all
    rw [ea] at g0 g1 g2
    refine ⟨.mk k m ps, AtC.mk ok1 ok2 ?_ ?_ ?_ hps⟩
    · rw [show ao + 3 * i = ao + i * 3 by omega]; exact g0
    · rw [show ao + 3 * i + 1 = ao + (i * 3 + 1) by omega]; exact g1
    · rw [show ao + 3 * i + 2 = ao + (i * 3 + 2) by omega]; exact g2)
  exact ⟨ps, _, cap, by rw [hpl], by rw [hpl]; exact hl, hm', .inr ⟨ab, ao, rfl, trivial, hat⟩⟩
end

end Go.Proofs.Ytohogojphnlhpaa

/- The road from a law's walk to its row: one lemma for every law of this seat. -/
namespace Go.Proofs.Ytohogojphnlhpaa
open Go.ChangeShapes Go.WideShapes Go.ChangeAt Go.RowKit

theorem own : ownKnob Try.prog.godebug = none := by kernel_rfl
theorem laidOut : laidOutB Try.prog = true := by kernel_rfl

theorem trodAll_stays {H : Type} {enc : TypeId × Value → H} {P : Program} (hl : laidOutB P = true) {W W' : World} {sp' : Nat → Bool} : ∀ (ts : List TypeId) (vs : List Value) (ds : List (DataW H)) (ps : List MemPlace),
    (∀ t ∈ ts, P.readableRec t = true ∧ t < P.types.size) → DataW.TrodAll enc P W 0 (fun _ => true) true ts vs ds ps → (∀ p ∈ ps, W.sameAt W' p) → (∀ p ∈ ps, sp' p.block = true) → DataW.TrodAll enc P W' 0 sp' true ts vs ds ps
  | [], [], [], _, _, h, _, _ => h
  | t :: ts, v :: vs, d :: ds, ps, ht, h, hs, hp => by
    obtain ⟨p, q, h1, h2, rfl⟩ := h
    exact ⟨p, q, WideElems.Trod_stays hl (ht t (by simp)).1 (ht t (by simp)).2 h1 (fun x hx => hs x (by simp [hx])) (fun x hx => hp x (by simp [hx])),
      trodAll_stays hl ts vs ds q (fun u hu => ht u (by simp [hu])) h2 (fun x hx => hs x (by simp [hx])) (fun x hx => hp x (by simp [hx])), rfl⟩
  | [], _ :: _, _, _, _, h, _, _ => by simp [DataW.TrodAll] at h
  | [], [], _ :: _, _, _, h, _, _ => by simp [DataW.TrodAll] at h
  | _ :: _, [], _, _, _, h, _, _ => by simp [DataW.TrodAll] at h
  | _ :: _, _ :: _, [], _, _, h, _, _ => by simp [DataW.TrodAll] at h

/-- BEHIND THE WALK: the law returned true and made new memory alone. -/
theorem law_post {H : Type} {enc : TypeId × Value → H} {P : Program} (hl : laidOutB P = true) {f : Func} {s : ChangeSpec} {W W' : World} {args : Array Value} {ds : List (DataW H)} {before : List MemPlace} {tb : TypeId}
    (hsv : s.vars = []) (hrt : f.resultTypes = #[tb]) (htb : P.underlying tb = some .bool) (hts : ∀ t ∈ f.params.toList, P.readableRec t = true ∧ t < P.types.size)
    (hres : (s.fn H (ds ++ [])).results = [.lit (.bool true)]) (hargs : (s.fn H (ds ++ [])).args = ds) (hvs : (s.fn H (ds ++ [])).vars = [])
    (hW : DataW.Whole enc P f.params.toList s.vars false W args.toList ds [] before) (hb : Below W.heap.size W W') :
    s.post enc P f false true false false W args (.bool true) W' := by
  have hlt : ∀ p ∈ before, p.block < W.heap.size := fun p hp => hW.lt p hp
  have hold : ∀ p ∈ before, (fun b => decide (b < W.heap.size)) p.block = true := fun p hp => by simpa using hlt p hp
  have hW0 := hW
  obtain ⟨p, q, hA, hV, rfl, _, _⟩ := hW
  rw [hsv] at hV
  obtain rfl : q = [] := by simpa [DataW.TrodVars] using hV
  have har : ∀ sp : Nat → Bool, (∀ x ∈ p ++ [], sp x.block = true) → DataW.TrodAll enc P W' 0 sp true f.params.toList args.toList ds p := fun sp hsp =>
    trodAll_stays hl _ _ _ _ hts hA (fun x hx => hb.same (hlt x (by simp [hx]))) (fun x hx => hsp x (by simp [hx]))
  have hrs : ∀ (b : Nat) (sp : Nat → Bool) (hd : Bool), DataW.TrodAll enc P W' b sp hd f.resultTypes.toList ((Value.bool true).resultList f.resultTypes.size) (s.fn H (ds ++ [])).results [] := by
    intro b sp hd
    rw [hres, hrt]
    exact trodAll_mk1 (shut_bool htb _)
  refine ⟨ds, [], _, [], p, [], hW0, hrs _ _ _, by rw [hargs]; exact har _ hold, by rw [hsv, hvs]; rfl, World.keptBut_mono (fun p hp => ⟨hp, ?_⟩) (hb.frame (· ∈ p ++ [])), fun h => by cases h⟩
  rw [List.mem_append] at hp
  exact Or.inr hp

end Go.Proofs.Ytohogojphnlhpaa

/- a code that came in, opened -/
namespace Go.Proofs.Ytohogojphnlhpaa
open Go.ChangeShapes Go.WideShapes Go.ChangeAt Go.RowKit Go.Joins

theorem cellsByte : Try.prog.cellsOf 5 = 1 := by kernel_rfl

theorem u8_of {v : Int} (h : (Lit.int .u8 v).wf = true) : 0 ≤ v ∧ v ≤ 255 := by
  have h1 : IntKind.u8.min = 0 := by decide
  have h2 : IntKind.u8.max = 255 := by decide
  simp [Lit.wf] at h
  omega

/-- A code that came in, opened. -/
theorem open_code {H : Type} {enc : TypeId × Value → H} {P : Program} {w : World} {spare : Nat → Bool} {held : Bool} {tS tE : TypeId} (hS : P.underlying tS = some (.slice tE)) (hE : P.underlying tE = some (.int .u8)) (hC : P.cellsOf tE = 1)
    {v : Value} {d : DataW H} {p : List MemPlace} (hv : ∃ a n c, v = .slice a n c) (h : DataW.Trod enc P w 0 spare held tS v d p) : ∃ a n c, v = .slice a n c ∧ CodeAt w a n c := by
  obtain ⟨a, n, c, rfl⟩ := hv
  obtain ⟨fuel, hf⟩ := h
  rcases open_ints hS hE hC hf with ⟨hcs, _⟩ | ⟨a', len', cap', zs, hcs, _, hl, hm, hz, _, hcell, hwz⟩
  · simp [Value.cells] at hcs
    obtain ⟨rfl, rfl, rfl⟩ := hcs
    exact ⟨none, 0, 0, rfl, by simp [CodeAt]⟩
  · simp [Value.cells] at hcs
    obtain ⟨rfl, rfl, rfl⟩ := hcs
    have hm' : c ≤ 9223372036854775807 := hm
    have hzl : n ≤ zs.length := by rw [hz]; split <;> omega
    by_cases h0 : n = 0
    · exact ⟨_, _, _, rfl, hl, hm', .inl h0⟩
    obtain ⟨b, o, rfl, hc⟩ := ints_at hcell (by omega)
    have hb : b < w.heap.size := cell_lt (by simpa using hc 0 (by omega))
    refine ⟨_, _, _, rfl, hl, hm', .inr ⟨b, o, rfl, hb, fun i hi => ?_⟩⟩
    have hw := u8_of (hwz (zs.getD i 0) (by rw [List.getD_eq_getElem?_getD, List.getElem?_eq_getElem (by omega)]; simp))
    exact ⟨zs.getD i 0, hw.1, hw.2, hc i (by omega)⟩

end Go.Proofs.Ytohogojphnlhpaa

/- l91Inputs -/
namespace Go.Proofs.Ytohogojphnlhpaa
open Go.RowKit

/-- Values for a sheet were drawn. -/
def InpD (g p : Nat) (w : World) (e : Ending) (w' : World) : Prop := ∃ (l : List Int) (v : Value) (q : Nat), e = .returned v ∧ NumRow w' w.heap.size v l ∧ l.length ≤ 9 ∧ (∀ x ∈ l, -1 ≤ x ∧ x ≤ 97) ∧ p ≤ q ∧ q ≤ p + 100 ∧ RdAt w' g q ∧ Only g w w'

set_option maxHeartbeats 3000000 in
theorem inputs_any (w : World) (g p : Nat) (a : Option Addr) (n c : Nat) (b' : Option Addr) (n' c' : Nat) (hr : RdAt w g p) (hp : p ≤ 990000) (hn8 : n ≤ 8) : Calls Try.prog 55 #[.pointer (some ⟨g, 0, none⟩), .agg #[.slice a n c, .slice b' n' c']] w (InpD g p w) := by
  obtain ⟨iN, ni, nz0, nz1, nz2⟩ := info_parts infoInt
  have HIN := Lib.hid (And.intro ni (And.intro nz0 (And.intro nz1 nz2)))
  have hml : maxLen = 9223372036854775807 := rfl
  have HML := Lib.hid hml
  have hgl := hr.lt
  have hgn : w.heap.size ≠ g := by omega
  obtain ⟨ts, hts⟩ : ∃ v, v = Value.slice b' n' c' := ⟨_, rfl⟩
  have HR0 := Lib.hid ((hr.alloc (.cells #[.slice a n c, .slice b' n' c'] 26)).alloc (.cells #[] 3))
  have hn0 := rowN_new (w.alloc (.cells #[.slice a n c, .slice b' n' c'] 26))
  simp only [World.size_alloc] at hn0
  have HN0 := Lib.hid hn0
  have HO0 := Lib.hid (((Only.refl g w).alloc (.cells #[.slice a n c, .slice b' n' c'] 26)).alloc (.cells #[] 3))
  have hk0 := (Blk.new w 26 #[.slice a n c, .slice b' n' c']).alloc (.cells #[] 3)
  have HK0 := Lib.hid hk0
  have HTS := Lib.hid hts
  clear ni nz0 nz1 nz2 hml hr hn0 hk0 hts
  go_enter Try.func55, Try.ntmps55
  go_wp2_with fail
  refine (pick_any _ g p 2 HR0.out (by omega) (by omega) (by omega)).mono ?_
  rintro e w1 ⟨r0, rfl, h0, h1, hrd, ho⟩
  have hs1 := ho.size
  simp only [World.size_alloc] at hs1
  have HN1 := Lib.hid (HN0.out.only ho (by omega))
  have HR1 := Lib.hid hrd
  have HO1 := Lib.hid (HO0.out.trans ho)
  have hk1 := HK0.out.only ho hgn
  rw [← HTS.out] at hk1
  have HK1 := Lib.hid hk1
  obtain ⟨small, hsm⟩ : ∃ b, b = (r0 == 0) := ⟨_, rfl⟩
  clear h0 h1 hrd ho hk1 HN0 HR0 HO0 HK0
  go_upto_region 3 with (fail)
  rw [← hsm]
  clear hsm
  go_wp2_with fail
  go_loopw [5, 7, 8] (fun v k _ wr => ∃ (l : List Int) (q : Nat), k = .int .i64 l.length ∧ l.length ≤ n ∧ NumRow wr (w.heap.size + 1) v l ∧ (∀ x ∈ l, 0 ≤ x ∧ x ≤ 97) ∧ RdAt wr g q ∧ (p ≤ q ∧ q ≤ p + 1 + 2 * l.length) ∧ Only g w wr ∧ Blk wr w.heap.size 26 #[.slice a n c, ts]) (fun _ k _ _ => n - (intOf k).toNat)
  case atStart => exact ⟨[], _, rfl, by simp, HN1.out, by simp, HR1.out, by simp, HO1.out, HK1.out⟩
  case round =>
    obtain ⟨l, q, rfl, hln, hnr, hb, hrd, hq, ho, hk⟩ := hrel
    obtain ⟨av, cv, rfl, _⟩ := hnr.at (fun y hy => by have := hb y hy; unfold i64ok; omega)
    have HN := Lib.hid hnr
    have HB := Lib.hid hb
    have HR := Lib.hid hrd
    have HO := Lib.hid ho
    have HK := Lib.hid hk
    have hws : w.heap.size < wr.heap.size := hk.lt
    have hl12 : l.length ≤ 8 := by omega
    obtain ⟨x0, x1, _, _⟩ := hk.two
    clear hnr hb hrd ho hk HN1 HR1 HO1 HK1
    by_cases hlt : l.length < n
    · go_wp2_with fail
      refine (pick_any _ g _ 97 HR.out (by omega) (by omega) (by omega)).mono ?_
      rintro e w4 ⟨r, rfl, h0, h1, hrd, ho⟩
      have hr97 := h1 (by omega)
      have hs4 := ho.size
      have HN4 := Lib.hid (HN.out.only ho (by omega))
      have HR4 := Lib.hid hrd
      have HO4 := Lib.hid (HO.out.trans ho)
      have HK4 := Lib.hid (HK.out.only ho hgn)
      have HWS := Lib.hid (show w.heap.size + 1 ≤ w4.heap.size by omega)
      clear h1 hrd ho HN HR HO HK x0 x1
      cases small
      · go_wp2_with (at_builtin; refine wpList_append_row _ rfl (.tmp 25) (.tmp 27) 30 rfl (w.heap.size + 1) 3 iN (.int .i64 0) 1 8 Try.underlying30 HIN.out.1 HIN.out.2.1 HIN.out.2.2.1 HIN.out.2.2.2 rfl (by decide) _ l.length (l.map (Value.int .i64)) rfl (World.ownsRow.alloc HN4.out _) ⟨w4.heap.size, 0, none⟩ 1 1 [.int .i64 r] rfl rfl ?ap1 ?ap2 (by decide) ?ap3 ?ap4 ?ap5 ?_)
        case ap1 => exact news1 _ _ _
        case ap2 => simp [Value.oneCell']
        case ap3 => rw [HML.out]; omega
        case ap4 => omega
        case ap5 => have := HWS.out; simp; omega
        intro v7 w7 hown hgr _
        have hge := own_ge HN4.out
        have hN7 : NumRow w7 (w.heap.size + 1) v7 (l ++ [r]) := by
          unfold NumRow
          rw [List.map_append, show (l ++ [(r : Int)]).length = l.length + 1 by simp]
          exact hown
        obtain ⟨a7, c7, rfl, _⟩ := hN7.at (fun y hy => by
          rcases List.mem_append.1 hy with hy | hy
          · have := HB.out y hy; unfold i64ok; omega
          · rw [List.mem_singleton.1 hy]; unfold i64ok; omega)
        have hR7 := (HR4.out.alloc (.cells #[.int .i64 r] 3)).grown hgr (fun k hk => by have := hge k hk; omega)
        have hO7 := only_grown (HO4.out.alloc (.cells #[.int .i64 r] 3)) hgr (fun k hk => by have := hge k hk; omega)

        have hK7 : Blk w7 w.heap.size 26 #[.slice a n c, ts] := (HK4.out.alloc (.cells #[.int .i64 r] 3)).fr' (grownBy_fr hgr) (fun hd => by have := hge _ hd; omega)
        have H7 := Lib.hid (And.intro hN7 (And.intro hR7 (And.intro hO7 hK7)))
        clear hown hgr hge hN7 hR7 hO7 hK7
        go_wp2_with fail
        go_roundw
        case rel =>
          refine ⟨l ++ [r], _, by simp only [List.length_append, List.length_singleton]; go_num, by simp; omega, by simpa using H7.out.1, ?_, H7.out.2.1, by simp only [List.length_append, List.length_singleton]; omega, H7.out.2.2.1, H7.out.2.2.2⟩
          intro y hy
          rcases List.mem_append.1 hy with hy | hy
          · exact HB.out y hy
          · rw [List.mem_singleton.1 hy]; omega
        case measure => simp [intOf]; omega
      · go_wp2_with fail
        refine (pick_any _ g _ 3 HR4.out (by omega) (by omega) (by omega)).mono ?_
        rintro e w5 ⟨r2, rfl, k0, k1, hrd, ho⟩
        have hr23 := k1 (by omega)
        have hs5 := ho.size
        have HN5 := Lib.hid (HN4.out.only ho (by omega))
        have HR5 := Lib.hid hrd
        have HO5 := Lib.hid (HO4.out.trans ho)
        have HK5 := Lib.hid (HK4.out.only ho hgn)
        clear HWS
        have HWS := Lib.hid (show w.heap.size + 1 ≤ w5.heap.size by omega)
        clear k1 hrd ho HN4 HR4 HO4 HK4
        go_wp2_with (at_builtin; refine wpList_append_row _ rfl (.tmp 25) (.tmp 27) 30 rfl (w.heap.size + 1) 3 iN (.int .i64 0) 1 8 Try.underlying30 HIN.out.1 HIN.out.2.1 HIN.out.2.2.1 HIN.out.2.2.2 rfl (by decide) _ l.length (l.map (Value.int .i64)) rfl (World.ownsRow.alloc HN5.out _) ⟨w5.heap.size, 0, none⟩ 1 1 [.int .i64 r2] rfl rfl ?aq1 ?aq2 (by decide) ?aq3 ?aq4 ?aq5 ?_)
        case aq1 => exact news1 _ _ _
        case aq2 => simp [Value.oneCell']
        case aq3 => rw [HML.out]; omega
        case aq4 => omega
        case aq5 => have := HWS.out; simp; omega
        intro v7 w7 hown hgr _
        have hge := own_ge HN5.out
        have hN7 : NumRow w7 (w.heap.size + 1) v7 (l ++ [r2]) := by
          unfold NumRow
          rw [List.map_append, show (l ++ [(r2 : Int)]).length = l.length + 1 by simp]
          exact hown
        obtain ⟨a7, c7, rfl, _⟩ := hN7.at (fun y hy => by
          rcases List.mem_append.1 hy with hy | hy
          · have := HB.out y hy; unfold i64ok; omega
          · rw [List.mem_singleton.1 hy]; unfold i64ok; omega)
        have hR7 := (HR5.out.alloc (.cells #[.int .i64 r2] 3)).grown hgr (fun k hk => by have := hge k hk; omega)
        have hO7 := only_grown (HO5.out.alloc (.cells #[.int .i64 r2] 3)) hgr (fun k hk => by have := hge k hk; omega)

        have hK7 : Blk w7 w.heap.size 26 #[.slice a n c, ts] := (HK5.out.alloc (.cells #[.int .i64 r2] 3)).fr' (grownBy_fr hgr) (fun hd => by have := hge _ hd; omega)
        have H7 := Lib.hid (And.intro hN7 (And.intro hR7 (And.intro hO7 hK7)))
        clear hown hgr hge hN7 hR7 hO7 hK7
        go_wp2_with fail
        go_roundw
        case rel =>
          refine ⟨l ++ [r2], _, by simp only [List.length_append, List.length_singleton]; go_num, by simp; omega, by simpa using H7.out.1, ?_, H7.out.2.1, by simp only [List.length_append, List.length_singleton]; omega, H7.out.2.2.1, H7.out.2.2.2⟩
          intro y hy
          rcases List.mem_append.1 hy with hy | hy
          · exact HB.out y hy
          · rw [List.mem_singleton.1 hy]; omega
        case measure => simp [intOf]; omega
    · have HLN := Lib.hid (show l.length = n by omega)
      go_wp2_with fail
      refine (pick_any _ g _ 25 HR.out (by omega) (by omega) (by omega)).mono ?_
      rintro e w4 ⟨r, rfl, h0, h1, hrd, ho⟩
      have hs4 := ho.size
      have HN4 := Lib.hid (HN.out.only ho (by omega))
      have HR4 := Lib.hid hrd
      have HO4 := Lib.hid (HO.out.trans ho)
      clear h1 hrd ho HN HR HO HK x0 x1
      by_cases hr0 : r = 0
      · subst hr0
        go_wp2_with fail
        refine (num_any _ g (q + 1) w4.heap.size 3 (-1) (97) (fun i => if i = 0 then 0 else if i = 1 then 97 else -1) (HR4.out.alloc _) (by omega) (by omega) (by omega) (by omega) ?_).mono ?_
        · intro i hi
          have hi' : i = 0 ∨ i = 1 ∨ i = 2 := by omega
          rcases hi' with rfl | rfl | rfl <;> (rw [World.cell?_alloc_new]; simp)
        rintro e w6 ⟨r6, p6, rfl, hv0, hv1, hp2, hp3, hrd, ho⟩
        have hs6 := ho.size
        simp only [World.size_alloc] at hs6
        have HN6 := Lib.hid (NumRow.only (World.ownsRow.alloc HN4.out _) ho (by omega))
        have HR6 := Lib.hid hrd
        have HO6 := Lib.hid ((HO4.out.alloc _).trans ho)
        have HWS := Lib.hid (show w.heap.size + 1 ≤ w6.heap.size by omega)
        clear hrd ho HN4 HR4 HO4
        go_wp2_with (at_builtin; refine wpList_append_row _ rfl (.tmp 32) (.tmp 36) 30 rfl (w.heap.size + 1) 3 iN (.int .i64 0) 1 8 Try.underlying30 HIN.out.1 HIN.out.2.1 HIN.out.2.2.1 HIN.out.2.2.2 rfl (by decide) _ l.length (l.map (Value.int .i64)) rfl (World.ownsRow.alloc HN6.out _) ⟨w6.heap.size, 0, none⟩ 1 1 [.int .i64 r6] rfl rfl ?ar1 ?ar2 (by decide) ?ar3 ?ar4 ?ar5 ?_)
        case ar1 => exact news1 _ _ _
        case ar2 => simp [Value.oneCell']
        case ar3 => rw [HML.out]; omega
        case ar4 => omega
        case ar5 => have := HWS.out; simp; omega
        intro v7 w7 hown hgr _
        have hge := own_ge HN6.out
        have hN7 : NumRow w7 (w.heap.size + 1) v7 (l ++ [r6]) := by
          unfold NumRow
          rw [List.map_append, show (l ++ [(r6 : Int)]).length = l.length + 1 by simp]
          exact hown
        obtain ⟨a7, c7, rfl, _⟩ := hN7.at (fun y hy => by
          rcases List.mem_append.1 hy with hy | hy
          · have := HB.out y hy; unfold i64ok; omega
          · rw [List.mem_singleton.1 hy]; unfold i64ok; omega)
        have hR7 := (HR6.out.alloc (.cells #[.int .i64 r6] 3)).grown hgr (fun k hk => by have := hge k hk; omega)
        have hO7 := only_grown (HO6.out.alloc (.cells #[.int .i64 r6] 3)) hgr (fun k hk => by have := hge k hk; omega)

        have H7 := Lib.hid (And.intro hN7 (And.intro hR7 hO7))
        clear hown hgr hge hN7 hR7 hO7
        go_wp2_with fail
        go_ret
        refine ⟨l ++ [r6], _, _, rfl, ownsRow_low H7.out.1 (by omega), by simp; omega, ?_, by omega, by omega, H7.out.2.1, H7.out.2.2⟩
        intro y hy
        rcases List.mem_append.1 hy with hy | hy
        · have := HB.out y hy; omega
        · rw [List.mem_singleton.1 hy]; omega
      · have hne : (r == 0) = false := by simpa using hr0
        go_wp2_with fail
        go_ret
        exact ⟨l, _, _, rfl, ownsRow_low HN4.out (by omega), by omega, fun y hy => by have := HB.out y hy; omega, by omega, by omega, HR4.out, HO4.out⟩
end Go.Proofs.Ytohogojphnlhpaa

/- DrawBuildKey and its like -/
namespace Go.Proofs.Ytohogojphnlhpaa
open Go.RowKit

/-- A sheet, values and a key were drawn off a code. -/
def ShKDr (w : World) (e : Ending) (w' : World) : Prop := ∃ (s : Sh) (a : Option Addr) (c : Nat) (a' : Option Addr) (c' : Nat) (l : List Int) (ai : Option Addr) (ci : Nat) (key : Int), e = .returned (.tuple #[.agg #[.slice a s.m.length c, .slice a' s.t.length c'], .slice ai l.length ci, .int .i64 key]) ∧
  ShAt w' (fun _ => True) s a c a' c' ∧ IntsAt w' (fun _ => True) l ai ci ∧ s.t.length = s.m.length ∧ s.m.length ≤ 8 ∧ nodesL s.t ≤ 120 ∧ l.length ≤ 9 ∧ Below w.heap.size w w'
/-- A sheet and values were drawn off a code. -/
def ShIDr (w : World) (e : Ending) (w' : World) : Prop := ∃ (s : Sh) (a : Option Addr) (c : Nat) (a' : Option Addr) (c' : Nat) (l : List Int) (ai : Option Addr) (ci : Nat), e = .returned (.tuple #[.agg #[.slice a s.m.length c, .slice a' s.t.length c'], .slice ai l.length ci]) ∧
  ShAt w' (fun _ => True) s a c a' c' ∧ IntsAt w' (fun _ => True) l ai ci ∧ s.t.length = s.m.length ∧ s.m.length ≤ 8 ∧ nodesL s.t ≤ 120 ∧ l.length ≤ 9 ∧ Below w.heap.size w w'
set_option maxHeartbeats 2000000 in
theorem drawBuildKey_any (w : World) (a : Option Addr) (n c : Nat) (h : CodeAt w a n c) : Calls Try.prog 16 #[.slice a n c] w (ShKDr w) := by
  have HC := Lib.hid (h.alloc (.cells #[.slice none 0 0, .slice none 0 0] 26))
  clear h
  go_enter Try.func16, Try.ntmps16
  go_wp2_with fail
  refine (open_any _ a n c HC.out).mono ?_
  rintro e w1 ⟨rfl, hrd, hb⟩
  have hsz1 := hb.size
  simp only [World.size_alloc] at hsz1 hrd hb
  have HK1 := Lib.hid ((Blk.new w 26 #[.slice none 0 0, .slice none 0 0]).below hb (by omega))
  have HE1 := Lib.hid (And.intro hrd (below_of_box hb))
  have hlt1 : w.heap.size + 1 < w1.heap.size := hrd.lt
  clear hrd hb HC
  go_wp2_with fail
  refine (sheetD_any _ (w.heap.size + 1) 0 ?_ (by omega)).mono ?_
  · exact HE1.out.1
  rintro e w2 ⟨s, v, a', c', q, rfl, hsh, htl, hml, hnl, _, hq2, hrd, ho⟩
  obtain ⟨av, cv, rfl, _⟩ := ElRow.at hsh.row
  have hsz2 := ho.size
  have HK2 := Lib.hid ((HK1.out.only ho (by omega)).alloc (.cells #[.slice av s.m.length cv, .slice a' s.t.length c'] 26))
  have HT2 := Lib.hid (Blk.new w2 26 #[.slice av s.m.length cv, .slice a' s.t.length c'])
  have hB2 : Below w.heap.size w w2 := HE1.out.2.trans ⟨ho.os, ho.tape, ho.output, ho.size, fun k hk => ho.block k (by omega) (by intro e; injection e; omega)⟩
  have HX2 := Lib.hid (hB2.alloc (by omega) (.cells #[.slice av s.m.length cv, .slice a' s.t.length c'] 26))
  have HS2 := Lib.hid (hsh.alloc (.cells #[.slice av s.m.length cv, .slice a' s.t.length c'] 26))
  have HR2 := Lib.hid (hrd.alloc (.cells #[.slice av s.m.length cv, .slice a' s.t.length c'] 26))
  have HTL := Lib.hid htl
  clear hrd ho hB2 HK1 HE1 hsh htl
  go_wp2_with fail
  refine (inputs_any _ (w.heap.size + 1) q av s.m.length cv a' s.t.length c' HR2.out (by omega) hml).mono ?_
  rintro e w3 ⟨l, v, q3, rfl, hn, hl, hlb, _, _, hrd, ho⟩
  have hsz3 := ho.size
  simp only [World.size_alloc] at hsz3 hn
  obtain ⟨ai, ci, rfl, _⟩ := NumRow.at (show NumRow w3 _ v l from hn) (by intro x hx; have := hlb x hx; unfold i64ok; omega)
  have HK3 := Lib.hid (HK2.out.only ho (by omega))
  have HT3 := Lib.hid (HT2.out.only ho (by omega))
  have HX3 := Lib.hid (show Below w.heap.size w w3 from HX2.out.trans ⟨ho.os, ho.tape, ho.output, ho.size, fun k hk => ho.block k (by simp; omega) (by intro e; injection e; omega)⟩)
  have HS3 := Lib.hid (HS2.out.only ho (by omega))
  have HN3 := Lib.hid hn
  have HR3 := Lib.hid hrd
  have HLB := Lib.hid hlb
  clear hn hlb hrd ho HK2 HT2 HX2 HS2 HR2
  go_wp2_with fail
  refine (pick_any _ (w.heap.size + 1) q3 11 HR3.out (by omega) (by omega) (by omega)).mono ?_
  rintro e w4 ⟨r, rfl, h0, h1, hrd, ho⟩
  have hr11 := h1 (by omega)
  have hsz4 := ho.size
  have HK4 := Lib.hid (HK3.out.only ho (by omega))
  have HT4 := Lib.hid (HT3.out.only ho (by omega))
  have HX4 := Lib.hid (show Below w.heap.size w w4 from HX3.out.trans ⟨ho.os, ho.tape, ho.output, ho.size, fun k hk => ho.block k (by omega) (by intro e; injection e; omega)⟩)
  have HS4 := Lib.hid (HS3.out.only ho (by omega))
  have HN4 := Lib.hid (NumRow.only HN3.out ho (by omega))
  clear h1 hrd ho HK3 HT3 HX3 HS3 HN3 HR3
  obtain ⟨x0, x1, f0, f1⟩ := HK4.out.two
  obtain ⟨y0, y1, _, _⟩ := HT4.out.two
  have hz : w.heap.size < w4.heap.size := by omega
  go_wp2_with fail
  have hb5 := (HK4.out.set_ 0 (.slice av s.m.length cv)).set_ 1 (.slice a' s.t.length c')
  obtain ⟨z0, z1, _, _⟩ := (show Blk _ w.heap.size 26 #[.slice av s.m.length cv, .slice a' s.t.length c'] from hb5).two
  refine bodyPost_ret (v := .tuple #[.agg #[.slice av s.m.length cv, .slice a' s.t.length c'], .slice ai l.length ci, .int .i64 (r - 1)]) (by simp only [results, Try.results16]; simp [go_sem, z0, z1]) rfl ?_
  have hne : (Value.slice ai l.length ci).ownBlock ≠ some w.heap.size := fun e => by have := own_ge HN4.out _ e; omega
  have h1 := (HS4.out.set_ ⟨w.heap.size, 0, none⟩ (.slice av s.m.length cv) (.inl (by simp; omega))).set_ ⟨w.heap.size, 1, none⟩ (.slice a' s.t.length c') (.inl (by simp; omega))
  obtain ⟨a6, c6, e6, h2⟩ := h1.at
  simp only [Value.slice.injEq, true_and] at e6
  obtain ⟨rfl, rfl⟩ := e6
  have h3 := ownsRow_setCell_other (ownsRow_setCell_other HN4.out (a := ⟨w.heap.size, 0, none⟩) hne (.slice av s.m.length cv)) (a := ⟨w.heap.size, 1, none⟩) hne (.slice a' s.t.length c')
  obtain ⟨a7, c7, e7, h4⟩ := NumRow.at (show NumRow _ _ _ l from h3) (by intro x hx; have := HLB.out x hx; unfold i64ok; omega)
  simp only [Value.slice.injEq, true_and] at e7
  obtain ⟨rfl, rfl⟩ := e7
  exact ⟨s, av, cv, a', c', l, ai, ci, _, rfl, h2.keep (fun _ _ => trivial) (fun _ _ _ => rfl), h4.keep (fun _ _ => trivial) (fun _ _ _ => rfl), HTL.out, hml, hnl, hl, (HX4.out.setCell (Nat.le_refl _) _).setCell (Nat.le_refl _) _⟩
set_option maxHeartbeats 2000000 in
theorem drawCircleOf_any (w : World) (a : Option Addr) (n c : Nat) (h : CodeAt w a n c) : Calls Try.prog 24 #[.slice a n c] w (ShKDr w) := by
  have HC := Lib.hid (h.alloc (.cells #[.slice none 0 0, .slice none 0 0] 26))
  clear h
  go_enter Try.func24, Try.ntmps24
  go_wp2_with fail
  refine (open_any _ a n c HC.out).mono ?_
  rintro e w1 ⟨rfl, hrd, hb⟩
  have hsz1 := hb.size
  simp only [World.size_alloc] at hsz1 hrd hb
  have HK1 := Lib.hid ((Blk.new w 26 #[.slice none 0 0, .slice none 0 0]).below hb (by omega))
  have HE1 := Lib.hid (And.intro hrd (below_of_box hb))
  have hlt1 : w.heap.size + 1 < w1.heap.size := hrd.lt
  clear hrd hb HC
  go_wp2_with fail
  refine (sheetD_any _ (w.heap.size + 1) 0 ?_ (by omega)).mono ?_
  · exact HE1.out.1
  rintro e w2 ⟨s, v, a', c', q, rfl, hsh, htl, hml, hnl, _, hq2, hrd, ho⟩
  obtain ⟨av, cv, rfl, _⟩ := ElRow.at hsh.row
  have hsz2 := ho.size
  have HK2 := Lib.hid ((HK1.out.only ho (by omega)).alloc (.cells #[.slice av s.m.length cv, .slice a' s.t.length c'] 26))
  have HT2 := Lib.hid (Blk.new w2 26 #[.slice av s.m.length cv, .slice a' s.t.length c'])
  have hB2 : Below w.heap.size w w2 := HE1.out.2.trans ⟨ho.os, ho.tape, ho.output, ho.size, fun k hk => ho.block k (by omega) (by intro e; injection e; omega)⟩
  have HX2 := Lib.hid (hB2.alloc (by omega) (.cells #[.slice av s.m.length cv, .slice a' s.t.length c'] 26))
  have HS2 := Lib.hid (hsh.alloc (.cells #[.slice av s.m.length cv, .slice a' s.t.length c'] 26))
  have HR2 := Lib.hid (hrd.alloc (.cells #[.slice av s.m.length cv, .slice a' s.t.length c'] 26))
  have HTL := Lib.hid htl
  clear hrd ho hB2 HK1 HE1 hsh htl
  go_wp2_with fail
  refine (inputs_any _ (w.heap.size + 1) q av s.m.length cv a' s.t.length c' HR2.out (by omega) hml).mono ?_
  rintro e w3 ⟨l, v, q3, rfl, hn, hl, hlb, _, _, hrd, ho⟩
  have hsz3 := ho.size
  simp only [World.size_alloc] at hsz3 hn
  obtain ⟨ai, ci, rfl, _⟩ := NumRow.at (show NumRow w3 _ v l from hn) (by intro x hx; have := hlb x hx; unfold i64ok; omega)
  have HK3 := Lib.hid (HK2.out.only ho (by omega))
  have HT3 := Lib.hid (HT2.out.only ho (by omega))
  have HX3 := Lib.hid (show Below w.heap.size w w3 from HX2.out.trans ⟨ho.os, ho.tape, ho.output, ho.size, fun k hk => ho.block k (by simp; omega) (by intro e; injection e; omega)⟩)
  have HS3 := Lib.hid (HS2.out.only ho (by omega))
  have HN3 := Lib.hid hn
  have HR3 := Lib.hid hrd
  have HLB := Lib.hid hlb
  clear hn hlb hrd ho HK2 HT2 HX2 HS2 HR2
  go_wp2_with fail
  refine (pick_any _ (w.heap.size + 1) q3 11 HR3.out (by omega) (by omega) (by omega)).mono ?_
  rintro e w4 ⟨r, rfl, h0, h1, hrd, ho⟩
  have hr11 := h1 (by omega)
  have hsz4 := ho.size
  have HK4 := Lib.hid (HK3.out.only ho (by omega))
  have HT4 := Lib.hid (HT3.out.only ho (by omega))
  have HX4 := Lib.hid (show Below w.heap.size w w4 from HX3.out.trans ⟨ho.os, ho.tape, ho.output, ho.size, fun k hk => ho.block k (by omega) (by intro e; injection e; omega)⟩)
  have HS4 := Lib.hid (HS3.out.only ho (by omega))
  have HN4 := Lib.hid (NumRow.only HN3.out ho (by omega))
  clear h1 hrd ho HK3 HT3 HX3 HS3 HN3 HR3
  obtain ⟨x0, x1, f0, f1⟩ := HK4.out.two
  obtain ⟨y0, y1, _, _⟩ := HT4.out.two
  have hz : w.heap.size < w4.heap.size := by omega
  go_wp2_with fail
  have hb5 := (HK4.out.set_ 0 (.slice av s.m.length cv)).set_ 1 (.slice a' s.t.length c')
  obtain ⟨z0, z1, _, _⟩ := (show Blk _ w.heap.size 26 #[.slice av s.m.length cv, .slice a' s.t.length c'] from hb5).two
  refine bodyPost_ret (v := .tuple #[.agg #[.slice av s.m.length cv, .slice a' s.t.length c'], .slice ai l.length ci, .int .i64 (r - 1)]) (by simp only [results, Try.results24]; simp [go_sem, z0, z1]) rfl ?_
  have hne : (Value.slice ai l.length ci).ownBlock ≠ some w.heap.size := fun e => by have := own_ge HN4.out _ e; omega
  have h1 := (HS4.out.set_ ⟨w.heap.size, 0, none⟩ (.slice av s.m.length cv) (.inl (by simp; omega))).set_ ⟨w.heap.size, 1, none⟩ (.slice a' s.t.length c') (.inl (by simp; omega))
  obtain ⟨a6, c6, e6, h2⟩ := h1.at
  simp only [Value.slice.injEq, true_and] at e6
  obtain ⟨rfl, rfl⟩ := e6
  have h3 := ownsRow_setCell_other (ownsRow_setCell_other HN4.out (a := ⟨w.heap.size, 0, none⟩) hne (.slice av s.m.length cv)) (a := ⟨w.heap.size, 1, none⟩) hne (.slice a' s.t.length c')
  obtain ⟨a7, c7, e7, h4⟩ := NumRow.at (show NumRow _ _ _ l from h3) (by intro x hx; have := HLB.out x hx; unfold i64ok; omega)
  simp only [Value.slice.injEq, true_and] at e7
  obtain ⟨rfl, rfl⟩ := e7
  exact ⟨s, av, cv, a', c', l, ai, ci, _, rfl, h2.keep (fun _ _ => trivial) (fun _ _ _ => rfl), h4.keep (fun _ _ => trivial) (fun _ _ _ => rfl), HTL.out, hml, hnl, hl, (HX4.out.setCell (Nat.le_refl _) _).setCell (Nat.le_refl _) _⟩
set_option maxHeartbeats 2000000 in
theorem drawBuildAll_any (w : World) (a : Option Addr) (n c : Nat) (h : CodeAt w a n c) : Calls Try.prog 21 #[.slice a n c] w (ShIDr w) := by
  have HC := Lib.hid (h.alloc (.cells #[.slice none 0 0, .slice none 0 0] 26))
  clear h
  go_enter Try.func21, Try.ntmps21
  go_wp2_with fail
  refine (open_any _ a n c HC.out).mono ?_
  rintro e w1 ⟨rfl, hrd, hb⟩
  have hsz1 := hb.size
  simp only [World.size_alloc] at hsz1 hrd hb
  have HK1 := Lib.hid ((Blk.new w 26 #[.slice none 0 0, .slice none 0 0]).below hb (by omega))
  have HE1 := Lib.hid (And.intro hrd (below_of_box hb))
  have hlt1 : w.heap.size + 1 < w1.heap.size := hrd.lt
  clear hrd hb HC
  go_wp2_with fail
  refine (sheetD_any _ (w.heap.size + 1) 0 ?_ (by omega)).mono ?_
  · exact HE1.out.1
  rintro e w2 ⟨s, v, a', c', q, rfl, hsh, htl, hml, hnl, _, hq2, hrd, ho⟩
  obtain ⟨av, cv, rfl, _⟩ := ElRow.at hsh.row
  have hsz2 := ho.size
  have HK2 := Lib.hid ((HK1.out.only ho (by omega)).alloc (.cells #[.slice av s.m.length cv, .slice a' s.t.length c'] 26))
  have HT2 := Lib.hid (Blk.new w2 26 #[.slice av s.m.length cv, .slice a' s.t.length c'])
  have hB2 : Below w.heap.size w w2 := HE1.out.2.trans ⟨ho.os, ho.tape, ho.output, ho.size, fun k hk => ho.block k (by omega) (by intro e; injection e; omega)⟩
  have HX2 := Lib.hid (hB2.alloc (by omega) (.cells #[.slice av s.m.length cv, .slice a' s.t.length c'] 26))
  have HS2 := Lib.hid (hsh.alloc (.cells #[.slice av s.m.length cv, .slice a' s.t.length c'] 26))
  have HR2 := Lib.hid (hrd.alloc (.cells #[.slice av s.m.length cv, .slice a' s.t.length c'] 26))
  have HTL := Lib.hid htl
  clear hrd ho hB2 HK1 HE1 hsh htl
  go_wp2_with fail
  refine (inputs_any _ (w.heap.size + 1) q av s.m.length cv a' s.t.length c' HR2.out (by omega) hml).mono ?_
  rintro e w3 ⟨l, v, q3, rfl, hn, hl, hlb, _, _, hrd, ho⟩
  have hsz3 := ho.size
  simp only [World.size_alloc] at hsz3 hn
  obtain ⟨ai, ci, rfl, _⟩ := NumRow.at (show NumRow w3 _ v l from hn) (by intro x hx; have := hlb x hx; unfold i64ok; omega)
  have HK3 := Lib.hid (HK2.out.only ho (by omega))
  have HT3 := Lib.hid (HT2.out.only ho (by omega))
  have HX3 := Lib.hid (show Below w.heap.size w w3 from HX2.out.trans ⟨ho.os, ho.tape, ho.output, ho.size, fun k hk => ho.block k (by simp; omega) (by intro e; injection e; omega)⟩)
  have HS3 := Lib.hid (HS2.out.only ho (by omega))
  have HN3 := Lib.hid hn
  have HR3 := Lib.hid hrd
  have HLB := Lib.hid hlb
  clear hn hlb hrd ho HK2 HT2 HX2 HS2 HR2
  obtain ⟨x0, x1, f0, f1⟩ := HK3.out.two
  obtain ⟨y0, y1, _, _⟩ := HT3.out.two
  have hz : w.heap.size < w3.heap.size := by omega
  go_wp2_with fail
  have hb5 := (HK3.out.set_ 0 (.slice av s.m.length cv)).set_ 1 (.slice a' s.t.length c')
  obtain ⟨z0, z1, _, _⟩ := (show Blk _ w.heap.size 26 #[.slice av s.m.length cv, .slice a' s.t.length c'] from hb5).two
  refine bodyPost_ret (v := .tuple #[.agg #[.slice av s.m.length cv, .slice a' s.t.length c'], .slice ai l.length ci]) (by simp only [results, Try.results21]; simp [go_sem, z0, z1]) rfl ?_
  have hne : (Value.slice ai l.length ci).ownBlock ≠ some w.heap.size := fun e => by have := own_ge HN3.out _ e; omega
  have h1 := (HS3.out.set_ ⟨w.heap.size, 0, none⟩ (.slice av s.m.length cv) (.inl (by simp; omega))).set_ ⟨w.heap.size, 1, none⟩ (.slice a' s.t.length c') (.inl (by simp; omega))
  obtain ⟨a6, c6, e6, h2⟩ := h1.at
  simp only [Value.slice.injEq, true_and] at e6
  obtain ⟨rfl, rfl⟩ := e6
  have h3 := ownsRow_setCell_other (ownsRow_setCell_other HN3.out (a := ⟨w.heap.size, 0, none⟩) hne (.slice av s.m.length cv)) (a := ⟨w.heap.size, 1, none⟩) hne (.slice a' s.t.length c')
  obtain ⟨a7, c7, e7, h4⟩ := NumRow.at (show NumRow _ _ _ l from h3) (by intro x hx; have := HLB.out x hx; unfold i64ok; omega)
  simp only [Value.slice.injEq, true_and] at e7
  obtain ⟨rfl, rfl⟩ := e7
  exact ⟨s, av, cv, a', c', l, ai, ci, rfl, h2.keep (fun _ _ => trivial) (fun _ _ _ => rfl), h4.keep (fun _ _ => trivial) (fun _ _ _ => rfl), HTL.out, hml, hnl, hl, (HX3.out.setCell (Nat.le_refl _) _).setCell (Nat.le_refl _) _⟩
end Go.Proofs.Ytohogojphnlhpaa

/- impl.BuildKey -/
namespace Go.Proofs.Ytohogojphnlhpaa
open Go.RowKit

noncomputable def bkOk (s : Sh) (l : List Int) (key : Int) : Bool := inOk s l && (decide (0 ≤ key ∧ key < s.m.length) && okS s l key)
noncomputable def bkV (s : Sh) (l : List Int) (key : Int) : Int := if bkOk s l key = true then vsS s l key else 0
def BkPost (s : Sh) (l : List Int) (key : Int) (w : World) (e : Ending) (w' : World) : Prop := e = .returned (.tuple #[.int .i64 (bkV s l key), .bool (bkOk s l key)]) ∧ Below w.heap.size w w'
theorem BkPost.no {s : Sh} {l : List Int} {key : Int} {w w' : World} (h : bkOk s l key = false) (hb : Below w.heap.size w w') : BkPost s l key w (.returned (.tuple #[.int .i64 0, .bool false])) w' := by
  unfold BkPost bkV
  rw [h]; exact ⟨rfl, hb⟩
theorem BkPost.yes {s : Sh} {l : List Int} {key : Int} {w w' : World} {v : Int} (h : bkOk s l key = true) (hv : v = vsS s l key) (hb : Below w.heap.size w w') : BkPost s l key w (.returned (.tuple #[.int .i64 v, .bool true])) w' := by
  unfold BkPost bkV
  rw [h, hv]; exact ⟨rfl, hb⟩

theorem PRow.cell {w : World} {b g n k i : Nat} (h : PRow w b g n k) (hi : i < k) : w.cell? ⟨b, i, none⟩ = some (.pointer (some ⟨g + i, 0, none⟩)) := by
  obtain ⟨cs, h1, _, h3⟩ := h
  rw [h1.cell i, h3 i hi]; simp [ndP]
theorem PRow.fr {D : Nat → Prop} {w w' : World} {b g n k : Nat} (h : PRow w b g n k) (hf : Fr D w w') (hD : ¬ D b) : PRow w' b g n k := by
  obtain ⟨cs, h1, h2, h3⟩ := h
  exact ⟨cs, h1.fr hf hD, h2, h3⟩
theorem below_nd {B : Nat} {w w1 w2 : World} {g n : Nat} (h : Below B w w1) (hf : Fr (ndB g n) w1 w2) (hg : B ≤ g) (hB : B ≤ w1.heap.size) : Below B w w2 :=
  h.trans ⟨hf.1, hf.2.1, hf.2.2.1, hf.2.2.2.1, fun b hb => hf.2.2.2.2 b (by omega) (fun h => by have := h.1; omega)⟩

theorem nds_start {w : World} {S : Nat → Prop} {s : Sh} {l : List Int} {g n : Nat} {m : Nat → Nat → Value} (hok : s.ok = true) (h : Nds w S s g n m (vf l) (fun k => !s.mdI k)) :
    Nds w S s g n m (fun k => if (!s.mdI k) = true then vsS s l k else vf l k) (fun k => !s.mdI k) :=
  h.congr (fun _ _ _ _ => rfl) (fun k _ => by
    show vf l (k : Int) = if (!s.mdI (k : Int)) = true then vsS s l k else vf l k
    cases hm : s.mdI (k : Int)
    · rw [vsS_free hok hm]; simp
    · simp) (fun _ _ => rfl)

set_option maxRecDepth 100000 in
set_option maxHeartbeats 2000000 in
theorem implBuildKey_any (s : Sh) (l : List Int) (key : Int) (w : World) (S S' : Nat → Prop) (a : Option Addr) (c : Nat) (a' : Option Addr) (c' : Nat) (ai : Option Addr) (ci : Nat) (h : ShAt w S s a c a' c') (hl : IntsAt w S' l ai ci) :
    Calls Try.prog 17 #[.agg #[.slice a s.m.length c, .slice a' s.t.length c'], .slice ai l.length ci, .int .i64 key] w (BkPost s l key w) := by
  have K0 := Lib.hid (Ks.start (ty := 26) h)
  have L0 := Lib.hid (hl.alloc (.cells #[.slice a s.m.length c, .slice a' s.t.length c'] 26))
  clear h hl
  obtain ⟨x0, x1⟩ := K0.out.box
  cases hin : inOk s l
  · have HNO := Lib.hid (show bkOk s l key = false by unfold bkOk; rw [hin]; rfl)
    have HI := Lib.hid hin
    clear hin
    go_enter Try.func17, Try.ntmps17
    go_wp2_with fail
    refine (implInputs_any s l _ S S' a c a' c' ai ci K0.out.2 L0.out).mono ?_
    rintro e w1 ⟨rfl, hb⟩
    rw [HI.out]
    have K1 := Lib.hid (K0.out.step hb)
    clear hb x0 x1
    go_wp2_with fail
    go_ret2
    exact BkPost.no HNO.out K1.out.done
  cases hk : decide (0 ≤ key ∧ key < s.m.length)
  · have HNO := Lib.hid (show bkOk s l key = false by unfold bkOk; rw [hk]; simp)
    have HI := Lib.hid hin
    have HK := Lib.hid hk
    clear hin hk
    go_enter Try.func17, Try.ntmps17
    go_wp2_with fail
    refine (implInputs_any s l _ S S' a c a' c' ai ci K0.out.2 L0.out).mono ?_
    rintro e w1 ⟨rfl, hb⟩
    rw [HI.out]
    have K1 := Lib.hid (K0.out.step hb)
    clear hb x0 x1
    obtain ⟨x0, x1⟩ := K1.out.box
    go_wp2_with fail
    refine (hasKey_any s _ S a c a' c' key K1.out.2).mono ?_
    rintro e w2 ⟨rfl, hb⟩
    rw [HK.out]
    have K2 := Lib.hid (K1.out.step hb)
    clear hb x0 x1
    go_wp2_with fail
    go_ret2
    exact BkPost.no HNO.out K2.out.done
  · have hk2 : 0 ≤ key ∧ key < s.m.length := by simpa using hk
    obtain ⟨kn, rfl⟩ : ∃ kn : Nat, key = kn := ⟨key.toNat, by omega⟩
    have hkn : kn < s.m.length := by omega
    have hbk : bkOk s l kn = okS s l kn := by unfold bkOk; rw [hin, hk]; rfl
    have HBK := Lib.hid hbk
    have HI := Lib.hid hin
    have HK := Lib.hid hk
    have h10 : s.m.length ≤ 10 := (Sh.ok_iff.1 (inOk_of hin).1).1
    clear hin hk hbk hk2
    go_enter Try.func17, Try.ntmps17
    go_wp2_with fail
    refine (implInputs_any s l _ S S' a c a' c' ai ci K0.out.2 L0.out).mono ?_
    rintro e w1 ⟨rfl, hb⟩
    rw [HI.out]
    have K1 := Lib.hid (K0.out.step hb)
    have L1 := Lib.hid (L0.out.below hb)
    clear hb x0 x1
    obtain ⟨x0, x1⟩ := K1.out.box
    go_wp2_with fail
    refine (hasKey_any s _ S a c a' c' kn K1.out.2).mono ?_
    rintro e w2 ⟨rfl, hb⟩
    rw [HK.out]
    have K2 := Lib.hid (K1.out.step hb)
    have L2 := Lib.hid (L1.out.below hb)
    clear hb x0 x1
    obtain ⟨x0, x1⟩ := K2.out.box
    go_wp2_with fail
    refine (nodes_any' s l _ S S' a c a' c' ai ci K2.out.2 L2.out HI.out).mono ?_
    rintro e w3 ⟨g, b, rfl, hb1, hg1, hnb, hp, hnd, hb⟩
    have K3 := Lib.hid (K2.out.step hb)
    have HND := Lib.hid hnd
    have HG := Lib.hid (And.intro hg1 hb.size)
    have hcell := hp.cell hkn
    have hbl : b < w3.heap.size := cell_lt hcell
    clear hb hp hnd x0 x1 hg1
    go_wp2_with fail
    have hok := (inOk_of HI.out).1
    have hS : ∀ b, (fun b => S b ∧ b < w2.heap.size) b → b < g := fun b hb => by have := HG.out.1; have := hb.2; omega
    refine (finish_any (gr_S hok l) (try_step HI.out hS) h10 hS w3 (fun k => !s.mdI k) kn hkn (fun _ h => h) (fun k h => (gr_S hok l).d0ok k h) (nds_start hok HND.out)).mono ?_
    rintro e w4 ⟨d, L, a4, c4, rfl, hat, hnd, _, hdo, hfr, _, ⟨rfl, hdf⟩ | ⟨hne, hnok, hLc⟩⟩
    · have K4 := Lib.hid (below_nd K3.out.done hfr (by have := HG.out.1; have := K2.out.size; omega) (by have := K3.out.size; omega))
      obtain ⟨_, _, hgk, _, _, _, _, _, e14, _, _, _⟩ := hnd.node hkn
      have e : (fun d k => if d k = true then vsS s l k else vf l k) d (kn : Int) = vsS s l kn := by simp only [hdf, if_true]
      rw [e] at e14
      obtain ⟨v, hv⟩ : ∃ v, v = vsS s l kn := ⟨_, rfl⟩
      rw [← hv] at e14
      have HV := Lib.hid hv
      have HY := Lib.hid (show bkOk s l kn = true by rw [HBK.out]; exact hdo _ hdf)
      clear hnd hdo hfr hdf e hok hS hv hat
      go_wp2_with fail
      go_ret2
      exact BkPost.yes HY.out HV.out K4.out
    · have K4 := Lib.hid (below_nd K3.out.done hfr (by have := HG.out.1; have := K2.out.size; omega) (by have := K3.out.size; omega))
      have HNO := Lib.hid (show bkOk s l kn = false by rw [HBK.out]; exact hnok)
      have hlp : decide ((0 : Int) < (L.length : Int)) = true := decide_eq_true (by have := List.length_pos_iff.2 hne; omega)
      have hlp2 : 0 < L.length := List.length_pos_iff.2 hne
      have hlp3 : decide (0 < L.length) = true := decide_eq_true hlp2
      have hLm : L.length ≤ 9223372036854775807 := by have := hat.1; have := hat.2.1; omega
      clear hnd hdo hfr hnok hok hS hne hat hLc
      go_wp2_with fail
      go_ret2
      exact BkPost.no HNO.out K4.out
end Go.Proofs.Ytohogojphnlhpaa

/- spec.BuildKey, spec.CircleOf -/
namespace Go.Proofs.Ytohogojphnlhpaa
open Go.RowKit

section
variable {S S' : Nat → Prop} {s : Sh} {l : List Int} {q : Nat} {a : Option Addr} {c : Nat} {a' : Option Addr} {c' : Nat} {ai : Option Addr} {ci : Nat}
theorem key_all : ∀ r, KeyT S S' s l q a c a' c' ai ci r
  | 0 => fun uv cv U k w hr hp => by
    have := hp.undL
    omega
  | r + 1 => fun uv cv U k w hr hp => by
    by_cases hk : (s.m.length : Int) ≤ k
    · exact key_far hp hk
    cases hm : s.mdI k
    · exact key_in hp (by omega) hm
    by_cases hU : k ∈ U
    · exact key_circ hp hm hU
    obtain ⟨kn, rfl⟩ : ∃ kn : Nat, k = kn := ⟨k.toNat, by have := hp.k0; omega⟩
    exact key_main (key_all r) (by omega) hp hm hU
end

/-- What building a key from nothing leaves, the builder in block q. -/
theorem key_top {s : Sh} {l : List Int} {w : World} {S S' : Nat → Prop} {a : Option Addr} {c : Nat} {a' : Option Addr} {c' : Nat} {ai : Option Addr} {ci : Nat} (q : Nat) (hin : inOk s l = true) (hs : ShAt w S s a c a' c') (hl : IntsAt w S' l ai ci) (hS : ∀ b, S b → b < q) (hS' : ∀ b, S' b → b < q)
    (hbd : BdAt w q s l a c a' c' ai ci (.slice none 0 0) (.slice none 0 0)) (k : Int) (h0 : 0 ≤ k) (h9 : k ≤ 9) :
    Calls Try.prog 63 #[.pointer (some ⟨q, 0, none⟩), .int .i64 k] w (KeyPost s l q a c a' c' ai ci (.slice none 0 0) (.slice none 0 0) [] k w) :=
  key_all (s.m.length + 1) (.slice none 0 0) (.slice none 0 0) [] k w (by simp) ⟨hin, hs, hl, hS, hS', hbd, World.ownsRow_nil _ _ _ _, h0, h9, Hyp.nil, by simp⟩

theorem specBuildKey_pre {s : Sh} {l : List Int} {key : Int} (h : (inOk s l && decide (0 ≤ key ∧ key < s.m.length)) = false) : bkOk s l key = false := by
  unfold bkOk
  rw [← Bool.and_assoc, h]; rfl

set_option maxRecDepth 100000 in
set_option maxHeartbeats 2000000 in
theorem specBuildKey_any (s : Sh) (l : List Int) (key : Int) (w : World) (S0 S0' : Nat → Prop) (a : Option Addr) (c : Nat) (a' : Option Addr) (c' : Nat) (ai : Option Addr) (ci : Nat) (h0 : ShAt w S0 s a c a' c') (hn : nodesL s.t ≤ 1048576) (hl0 : IntsAt w S0' l ai ci) :
    Calls Try.prog 18 #[.agg #[.slice a s.m.length c, .slice a' s.t.length c'], .slice ai l.length ci, .int .i64 key] w (BkPost s l key w) := by
  obtain ⟨S, hSd⟩ : ∃ S : Nat → Prop, S = fun b => S0 b ∧ b < w.heap.size := ⟨_, rfl⟩
  have hSl : ∀ b, S b → b < w.heap.size := by rw [hSd]; exact fun b h => h.2
  have h : ShAt w S s a c a' c' := by rw [hSd]; exact h0.lim
  obtain ⟨S', hSd'⟩ : ∃ S : Nat → Prop, S = fun b => S0' b ∧ b < w.heap.size := ⟨_, rfl⟩
  have hSl' : ∀ b, S' b → b < w.heap.size := by rw [hSd']; exact fun b h => h.2
  have hl : IntsAt w S' l ai ci := by rw [hSd']; exact hl0.lim
  have K0 := Lib.hid (Ks.start (ty := 26) h)
  have L0 := Lib.hid (hl.alloc (.cells #[.slice a s.m.length c, .slice a' s.t.length c'] 26))
  have HSL := Lib.hid (And.intro hSl hSl')
  have HN := Lib.hid hn
  have hlm : s.m.length ≤ 9223372036854775807 := by have := h.1.1; have := h.1.2.1; omega
  clear h hl h0 hl0 hSd hSd' hSl hSl' hn
  obtain ⟨x0, x1⟩ := K0.out.box
  cases hin : inOk s l
  · have HNO := Lib.hid (show bkOk s l key = false from specBuildKey_pre (by rw [hin]; rfl))
    have HI := Lib.hid hin
    clear hin
    go_enter Try.func18, Try.ntmps18
    go_wp2_with fail
    refine (specInputs_any s l _ S S' a c a' c' ai ci K0.out.2 HN.out L0.out).mono ?_
    rintro e w1 ⟨rfl, hb⟩
    rw [HI.out]
    have K1 := Lib.hid (K0.out.step hb)
    clear hb x0 x1
    go_wp2_with fail
    go_ret2
    exact BkPost.no HNO.out K1.out.done
  have hmb : s.m.length ≤ 10 := (Sh.ok_iff.1 (inOk_of hin).1).1
  have hdk : decide (0 ≤ key ∧ key ≤ (s.m.length : Int) - 1) = decide (0 ≤ key ∧ key < s.m.length) := by
    by_cases hk : 0 ≤ key ∧ key < s.m.length
    · rw [decide_eq_true hk, decide_eq_true (by omega)]
    · rw [decide_eq_false hk, decide_eq_false (by omega)]
  cases hk : decide (0 ≤ key ∧ key < s.m.length)
  · have HNO := Lib.hid (show bkOk s l key = false from specBuildKey_pre (by rw [hk, Bool.and_false]))
    have HI := Lib.hid hin
    rw [hk] at hdk
    have HK := Lib.hid hdk
    clear hin hk hdk
    go_enter Try.func18, Try.ntmps18
    go_wp2_with fail
    refine (specInputs_any s l _ S S' a c a' c' ai ci K0.out.2 HN.out L0.out).mono ?_
    rintro e w1 ⟨rfl, hb⟩
    rw [HI.out]
    have K1 := Lib.hid (K0.out.step hb)
    clear hb x0 x1
    obtain ⟨x0, x1⟩ := K1.out.box
    go_wp2_with fail
    refine (in_any _ _ _ _).mono ?_
    rintro e w2 ⟨rfl, rfl⟩
    rw [HK.out]
    go_wp2_with fail
    go_ret2
    exact BkPost.no HNO.out K1.out.done
  · have hk2 : 0 ≤ key ∧ key < s.m.length := by simpa using hk
    have hbk : bkOk s l key = okS s l key := by unfold bkOk; rw [hin, hk]; rfl
    have HBK := Lib.hid hbk
    have HI := Lib.hid hin
    rw [hk] at hdk
    have HK := Lib.hid hdk
    clear hin hk hdk hbk
    go_enter Try.func18, Try.ntmps18
    go_wp2_with fail
    refine (specInputs_any s l _ S S' a c a' c' ai ci K0.out.2 HN.out L0.out).mono ?_
    rintro e w1 ⟨rfl, hb⟩
    rw [HI.out]
    have K1 := Lib.hid (K0.out.step hb)
    have L1 := Lib.hid (L0.out.below hb)
    clear hb x0 x1
    obtain ⟨x0, x1⟩ := K1.out.box
    go_wp2_with fail
    refine (in_any _ _ _ _).mono ?_
    rintro e w2 ⟨rfl, rfl⟩
    rw [HK.out]
    go_wp2_with fail
    have hsz := K1.out.size
    have hbd := Blk.new w1 83 #[.slice a s.m.length c, .slice a' s.t.length c', .slice ai l.length ci, .slice none 0 0, .slice none 0 0]
    refine (key_top (S := S) (S' := S') w1.heap.size HI.out (K1.out.2.alloc _) (L1.out.alloc _) (fun b hb => by have := HSL.out.1 b hb; omega) (fun b hb => by have := HSL.out.2 b hb; omega) hbd key hk2.1 (by omega)).mono ?_
    rintro e w3 ⟨uv, cv, v, b, rfl, _, _, hfr, _, hor⟩
    have hb3 : Below w.heap.size w w3 := (K1.out.done.alloc (by omega) _).trans ⟨hfr.1, hfr.2.1, hfr.2.2.1, hfr.2.2.2.1, fun i hi => hfr.2.2.2.2 i (by simp; omega) (fun h => by
      rcases h with h | h
      · omega
      · simp [Value.ownBlock] at h)⟩
    have HB3 := Lib.hid hb3
    rcases hor with ⟨rfl, ho, hv, _⟩ | ⟨rfl, ho, _⟩
    · have HY := Lib.hid (And.intro (show bkOk s l key = true by rw [HBK.out]; exact ho) hv)
      clear hb3 hfr hbd ho hv
      go_wp2_with fail
      go_ret2
      exact BkPost.yes HY.out.1 HY.out.2 HB3.out
    · have HNO := Lib.hid (show bkOk s l key = false by rw [HBK.out]; exact ho)
      clear hb3 hfr hbd ho
      go_wp2_with fail
      go_ret2
      exact BkPost.no HNO.out HB3.out
end Go.Proofs.Ytohogojphnlhpaa

/- spec.CircleOf, spec.BuildAll -/
namespace Go.Proofs.Ytohogojphnlhpaa
open Go.RowKit

noncomputable def coB (s : Sh) (l : List Int) (key : Int) : Bool := (inOk s l && decide (0 ≤ key ∧ key < s.m.length)) && !okS s l key
noncomputable def coL (s : Sh) (l : List Int) (key : Int) : List Int := if coB s l key = true then circ s.m.length (chS s l) (okS s l) [] key else []
def CoPost (s : Sh) (l : List Int) (key : Int) (w : World) (e : Ending) (w' : World) : Prop := Below w.heap.size w w' ∧ ∃ v, e = .returned (.tuple #[v, .bool (coB s l key)]) ∧ NumRow w' w.heap.size v (coL s l key)
theorem CoPost.no {s : Sh} {l : List Int} {key : Int} {w w' : World} {v : Value} (h : coB s l key = false) (hb : Below w.heap.size w w') (hv : NumRow w' w.heap.size v []) : CoPost s l key w (.returned (.tuple #[v, .bool false])) w' := by
  refine ⟨hb, v, by rw [h], ?_⟩
  unfold coL
  rw [h]; exact hv
theorem CoPost.yes {s : Sh} {l : List Int} {key : Int} {w w' : World} {v : Value} (h : coB s l key = true) (hb : Below w.heap.size w w') (hv : NumRow w' w.heap.size v (circ s.m.length (chS s l) (okS s l) [] key)) : CoPost s l key w (.returned (.tuple #[v, .bool true])) w' := by
  refine ⟨hb, v, by rw [h], ?_⟩
  unfold coL
  rw [h]; exact hv

set_option maxRecDepth 100000 in
set_option maxHeartbeats 2000000 in
theorem specCircle_any (s : Sh) (l : List Int) (key : Int) (w : World) (S0 S0' : Nat → Prop) (a : Option Addr) (c : Nat) (a' : Option Addr) (c' : Nat) (ai : Option Addr) (ci : Nat) (h0 : ShAt w S0 s a c a' c') (hn : nodesL s.t ≤ 1048576) (hl0 : IntsAt w S0' l ai ci) :
    Calls Try.prog 26 #[.agg #[.slice a s.m.length c, .slice a' s.t.length c'], .slice ai l.length ci, .int .i64 key] w (CoPost s l key w) := by
  obtain ⟨S, hSd⟩ : ∃ S : Nat → Prop, S = fun b => S0 b ∧ b < w.heap.size := ⟨_, rfl⟩
  have hSl : ∀ b, S b → b < w.heap.size := by rw [hSd]; exact fun b h => h.2
  have h : ShAt w S s a c a' c' := by rw [hSd]; exact h0.lim
  obtain ⟨S', hSd'⟩ : ∃ S : Nat → Prop, S = fun b => S0' b ∧ b < w.heap.size := ⟨_, rfl⟩
  have hSl' : ∀ b, S' b → b < w.heap.size := by rw [hSd']; exact fun b h => h.2
  have hl : IntsAt w S' l ai ci := by rw [hSd']; exact hl0.lim
  have K0 := Lib.hid (Ks.start (ty := 26) h)
  have L0 := Lib.hid (hl.alloc (.cells #[.slice a s.m.length c, .slice a' s.t.length c'] 26))
  have HSL := Lib.hid (And.intro hSl hSl')
  have HN := Lib.hid hn
  have hlm : s.m.length ≤ 9223372036854775807 := by have := h.1.1; have := h.1.2.1; omega
  clear h hl h0 hl0 hSd hSd' hSl hSl' hn
  obtain ⟨x0, x1⟩ := K0.out.box
  have hrn : ∀ W : World, w.heap.size ≤ W.heap.size → NumRow (W.alloc (.cells #[] 3)) w.heap.size (.slice (some ⟨W.heap.size, 0, none⟩) 0 0) [] := fun W hW => ownsRow_low (rowN_new W) hW
  have HRN := Lib.hid hrn
  clear hrn
  cases hin : inOk s l
  · have HNO := Lib.hid (show coB s l key = false by unfold coB; rw [hin]; rfl)
    have HI := Lib.hid hin
    clear hin
    go_enter Try.func26, Try.ntmps26
    go_wp2_with fail
    refine (specInputs_any s l _ S S' a c a' c' ai ci K0.out.2 HN.out L0.out).mono ?_
    rintro e w1 ⟨rfl, hb⟩
    rw [HI.out]
    have K1 := Lib.hid (K0.out.step hb)
    clear hb x0 x1
    go_wp2_with fail
    go_ret2
    exact CoPost.no HNO.out (K1.out.alloc _).done (HRN.out _ K1.out.done.size)
  have hmb : s.m.length ≤ 10 := (Sh.ok_iff.1 (inOk_of hin).1).1
  have hdk : decide (0 ≤ key ∧ key ≤ (s.m.length : Int) - 1) = decide (0 ≤ key ∧ key < s.m.length) := by
    by_cases hk : 0 ≤ key ∧ key < s.m.length
    · rw [decide_eq_true hk, decide_eq_true (by omega)]
    · rw [decide_eq_false hk, decide_eq_false (by omega)]
  cases hk : decide (0 ≤ key ∧ key < s.m.length)
  · have HNO := Lib.hid (show coB s l key = false by unfold coB; rw [hk]; simp)
    have HI := Lib.hid hin
    rw [hk] at hdk
    have HK := Lib.hid hdk
    clear hin hk hdk
    go_enter Try.func26, Try.ntmps26
    go_wp2_with fail
    refine (specInputs_any s l _ S S' a c a' c' ai ci K0.out.2 HN.out L0.out).mono ?_
    rintro e w1 ⟨rfl, hb⟩
    rw [HI.out]
    have K1 := Lib.hid (K0.out.step hb)
    clear hb x0 x1
    obtain ⟨x0, x1⟩ := K1.out.box
    go_wp2_with fail
    refine (in_any _ _ _ _).mono ?_
    rintro e w2 ⟨rfl, rfl⟩
    rw [HK.out]
    go_wp2_with fail
    go_ret2
    exact CoPost.no HNO.out (K1.out.alloc _).done (HRN.out _ K1.out.done.size)
  · have hk2 : 0 ≤ key ∧ key < s.m.length := by simpa using hk
    have hbk : coB s l key = !okS s l key := by unfold coB; rw [hin, hk]; rfl
    have HBK := Lib.hid hbk
    have HI := Lib.hid hin
    rw [hk] at hdk
    have HK := Lib.hid hdk
    clear hin hk hdk hbk
    go_enter Try.func26, Try.ntmps26
    go_wp2_with fail
    refine (specInputs_any s l _ S S' a c a' c' ai ci K0.out.2 HN.out L0.out).mono ?_
    rintro e w1 ⟨rfl, hb⟩
    rw [HI.out]
    have K1 := Lib.hid (K0.out.step hb)
    have L1 := Lib.hid (L0.out.below hb)
    clear hb x0 x1
    obtain ⟨x0, x1⟩ := K1.out.box
    go_wp2_with fail
    refine (in_any _ _ _ _).mono ?_
    rintro e w2 ⟨rfl, rfl⟩
    rw [HK.out]
    go_wp2_with fail
    have hsz := K1.out.size
    have hbd := Blk.new w1 83 #[.slice a s.m.length c, .slice a' s.t.length c', .slice ai l.length ci, .slice none 0 0, .slice none 0 0]
    refine (key_top (S := S) (S' := S') w1.heap.size HI.out (K1.out.2.alloc _) (L1.out.alloc _) (fun b hb => by have := HSL.out.1 b hb; omega) (fun b hb => by have := HSL.out.2 b hb; omega) hbd key hk2.1 (by omega)).mono ?_
    rintro e w3 ⟨uv, cv, v, b, rfl, hbd3, _, hfr, _, hor⟩
    have hb3 : Below w.heap.size w w3 := (K1.out.done.alloc (by omega) _).trans ⟨hfr.1, hfr.2.1, hfr.2.2.1, hfr.2.2.2.1, fun i hi => hfr.2.2.2.2 i (by simp; omega) (fun h => by
      rcases h with h | h
      · omega
      · simp [Value.ownBlock] at h)⟩
    have HB3 := Lib.hid hb3
    obtain ⟨y0, y1, y2, y3, y4, _⟩ := Blk.five hbd3
    have hs3 := hfr.size
    simp only [World.size_alloc] at hs3
    rcases hor with ⟨rfl, ho, hv, _⟩ | ⟨rfl, ho, hrow⟩
    · have HNO := Lib.hid (show coB s l key = false by rw [HBK.out, ho]; rfl)
      clear hb3 hfr hbd ho hv hbd3
      go_wp2_with fail
      go_ret2
      exact CoPost.no HNO.out (HB3.out.alloc (by omega) _) (HRN.out _ (by omega))
    · have HY := Lib.hid (And.intro (show coB s l key = true by rw [HBK.out, ho]; rfl) (ownsRow_low hrow (show w.heap.size ≤ _ by simp; omega)))
      obtain ⟨a5, c5, rfl, _⟩ := ElRow.at (f := Value.int .i64) (e := 3) hrow
      clear hb3 hfr hbd ho hrow hbd3
      go_wp2_with fail
      go_ret2
      exact CoPost.yes HY.out.1 HB3.out HY.out.2

noncomputable def baTo (s : Sh) (l : List Int) (k : Nat) : Bool := (List.range k).all fun (i : Nat) => okS s l (i : Int)
noncomputable def baVs (s : Sh) (l : List Int) (k : Nat) : List Int := (List.range k).map fun (i : Nat) => vsS s l (i : Int)
noncomputable def baB (s : Sh) (l : List Int) : Bool := inOk s l && baTo s l s.m.length
noncomputable def baL (s : Sh) (l : List Int) : List Int := if baB s l = true then baVs s l s.m.length else []
def BaPost (s : Sh) (l : List Int) (w : World) (e : Ending) (w' : World) : Prop := Below w.heap.size w w' ∧ ∃ v, e = .returned (.tuple #[v, .bool (baB s l)]) ∧ NumRow w' w.heap.size v (baL s l)
theorem BaPost.no {s : Sh} {l : List Int} {w w' : World} {v : Value} (h : baB s l = false) (hb : Below w.heap.size w w') (hv : NumRow w' w.heap.size v []) : BaPost s l w (.returned (.tuple #[v, .bool false])) w' := by
  refine ⟨hb, v, by rw [h], ?_⟩
  unfold baL
  rw [h]; exact hv
theorem BaPost.yes {s : Sh} {l : List Int} {w w' : World} {v : Value} (h : baB s l = true) (hb : Below w.heap.size w w') (hv : NumRow w' w.heap.size v (baVs s l s.m.length)) : BaPost s l w (.returned (.tuple #[v, .bool true])) w' := by
  refine ⟨hb, v, by rw [h], ?_⟩
  unfold baL
  rw [h]; exact hv
theorem baTo_succ (s : Sh) (l : List Int) (k : Nat) : baTo s l (k + 1) = (baTo s l k && okS s l (k : Int)) := by unfold baTo; rw [List.range_succ, List.all_append]; simp
theorem baVs_succ (s : Sh) (l : List Int) (k : Nat) : baVs s l (k + 1) = baVs s l k ++ [vsS s l (k : Int)] := by unfold baVs; rw [List.range_succ, List.map_append]; rfl
theorem baVs_len (s : Sh) (l : List Int) (k : Nat) : (baVs s l k).length = k := by simp [baVs]
theorem baTo_false {s : Sh} {l : List Int} {k n : Nat} (h : k < n) (ho : okS s l (k : Int) = false) : baTo s l n = false := by
  cases hx : baTo s l n
  · rfl
  · unfold baTo at hx
    rw [List.all_eq_true] at hx
    rw [hx k (List.mem_range.2 h)] at ho
    cases ho
theorem bkOk_in {s : Sh} {l : List Int} {k : Nat} (hin : inOk s l = true) (hk : k < s.m.length) : bkOk s l (k : Int) = okS s l (k : Int) := by
  unfold bkOk
  rw [hin, decide_eq_true (by omega)]; rfl

set_option maxRecDepth 100000 in
set_option maxHeartbeats 2000000 in
theorem specAll_any (s : Sh) (l : List Int) (w : World) (S0 S0' : Nat → Prop) (a : Option Addr) (c : Nat) (a' : Option Addr) (c' : Nat) (ai : Option Addr) (ci : Nat) (h0 : ShAt w S0 s a c a' c') (hn : nodesL s.t ≤ 1048576) (hl0 : IntsAt w S0' l ai ci) :
    Calls Try.prog 22 #[.agg #[.slice a s.m.length c, .slice a' s.t.length c'], .slice ai l.length ci] w (BaPost s l w) := by
  obtain ⟨S, hSd⟩ : ∃ S : Nat → Prop, S = fun b => S0 b ∧ b < w.heap.size := ⟨_, rfl⟩
  have hSl : ∀ b, S b → b < w.heap.size := by rw [hSd]; exact fun b h => h.2
  have h : ShAt w S s a c a' c' := by rw [hSd]; exact h0.lim
  obtain ⟨S', hSd'⟩ : ∃ S : Nat → Prop, S = fun b => S0' b ∧ b < w.heap.size := ⟨_, rfl⟩
  have hSl' : ∀ b, S' b → b < w.heap.size := by rw [hSd']; exact fun b h => h.2
  have hl : IntsAt w S' l ai ci := by rw [hSd']; exact hl0.lim
  have HSL := Lib.hid (And.intro hSl hSl')
  have K0 := Lib.hid ((Ks.start (ty := 26) h).alloc (.cells #[] 3))
  have L0 := Lib.hid ((hl.alloc (.cells #[.slice a s.m.length c, .slice a' s.t.length c'] 26)).alloc (.cells #[] 3))
  have HN := Lib.hid hn
  have hlm : s.m.length ≤ 9223372036854775807 := by have := h.1.1; have := h.1.2.1; omega
  have hr0 := rowN_new (w.alloc (.cells #[.slice a s.m.length c, .slice a' s.t.length c'] 26))
  simp only [World.size_alloc] at hr0
  have HR0 := Lib.hid hr0
  clear h hl hn hr0 h0 hl0 hSd hSd' hSl hSl'
  obtain ⟨x0, x1⟩ := K0.out.box
  cases hin : inOk s l
  · have HNO := Lib.hid (show baB s l = false by unfold baB; rw [hin]; rfl)
    have HI := Lib.hid hin
    clear hin
    go_enter Try.func22, Try.ntmps22
    go_wp2_with fail
    refine (specInputs_any s l _ S S' a c a' c' ai ci K0.out.2 HN.out L0.out).mono ?_
    rintro e w1 ⟨rfl, hb⟩
    rw [HI.out]
    have K1 := Lib.hid (K0.out.step hb)
    have R1 := Lib.hid (ownsRow_low (ElRow.below (f := Value.int .i64) (e := 3) HR0.out hb) (Nat.le_succ _))
    clear hb x0 x1
    go_wp2_with fail
    go_ret2
    exact BaPost.no HNO.out K1.out.done R1.out
  · have hmb : s.m.length ≤ 10 := (Sh.ok_iff.1 (inOk_of hin).1).1
    have hbb : baB s l = baTo s l s.m.length := by unfold baB; rw [hin]; rfl
    have HBB := Lib.hid hbb
    have HI := Lib.hid hin
    obtain ⟨iN, ni, nz0, nz1, nz2⟩ := info_parts infoInt
    have HIN := Lib.hid (And.intro ni (And.intro nz0 (And.intro nz1 nz2)))
    have hml : maxLen = 9223372036854775807 := rfl
    have HML := Lib.hid hml
    clear hin hbb ni nz0 nz1 nz2 hml
    go_enter Try.func22, Try.ntmps22
    go_wp2_with fail
    refine (specInputs_any s l _ S S' a c a' c' ai ci K0.out.2 HN.out L0.out).mono ?_
    rintro e w1 ⟨rfl, hb⟩
    rw [HI.out]
    have K1 := Lib.hid (K0.out.step hb)
    have L1 := Lib.hid (L0.out.below hb)
    have R1 := Lib.hid (ElRow.below (f := Value.int .i64) (e := 3) HR0.out hb)
    clear hb x0 x1 K0 L0 HR0
    go_wp2_with fail
    go_loopw [6, 7] (fun v i wr => ∃ k : Nat, k ≤ s.m.length ∧ i = .int .i64 k ∧ baTo s l k = true ∧ NumRow wr (w.heap.size + 1) v (baVs s l k) ∧ Ks S s a c a' c' 26 w wr ∧ IntsAt wr S' l ai ci) (fun _ i _ => s.m.length - (intOf i).toNat)
    case atStart => exact ⟨0, by omega, rfl, rfl, R1.out, K1.out, L1.out⟩
    case round =>
      obtain ⟨k, hk, rfl, hq, hr, hks, hil⟩ := hrel
      have HQ := Lib.hid hq
      have HR := Lib.hid hr
      have K2 := Lib.hid hks
      have L2 := Lib.hid hil
      clear hq hr hks hil K1 L1 R1
      obtain ⟨x0, x1⟩ := K2.out.box
      by_cases hlt : k < s.m.length
      · have hbk := bkOk_in HI.out hlt
        have HBK := Lib.hid hbk
        have hwsz := K2.out.size
        clear hbk
        go_wp2_with fail
        refine (specBuildKey_any s l k _ S S' a c a' c' ai ci K2.out.2 HN.out L2.out).mono ?_
        rintro e w2 ⟨rfl, hb⟩
        have K3 := Lib.hid (K2.out.step hb)
        have L3 := Lib.hid (L2.out.below hb)
        have R3 := Lib.hid (ElRow.below (f := Value.int .i64) (e := 3) HR.out hb)
        have hs2 := hb.size
        clear hb x0 x1 K2 L2 HR
        cases ho : okS s l (k : Int)
        · have hv : bkV s l (k : Int) = 0 := by unfold bkV; rw [HBK.out, ho]; rfl
          rw [hv, HBK.out, ho]
          have HX := Lib.hid (show baB s l = false by rw [HBB.out]; exact baTo_false hlt ho)
          clear hv ho
          go_wp2_with fail
          go_ret2
          exact BaPost.no HX.out (K3.out.alloc _).done (ownsRow_low (rowN_new w2) (by omega))
        · have hv : bkV s l (k : Int) = vsS s l (k : Int) := by unfold bkV; rw [HBK.out, ho]; rfl
          rw [hv, HBK.out, ho]
          have HX := Lib.hid (show baTo s l (k + 1) = true by rw [baTo_succ, HQ.out, ho]; rfl)
          obtain ⟨x, hx⟩ : ∃ x, x = vsS s l (k : Int) := ⟨_, rfl⟩
          rw [← hx]
          have HXE := Lib.hid hx
          obtain ⟨G, hG⟩ : ∃ G, G = baVs s l k := ⟨_, rfl⟩
          have hgow : w2.ownsRow (w.heap.size + 1) 3 1 u6 k (G.map (.int .i64)) := by
            have h := R3.out
            unfold ElRow at h
            rw [baVs_len] at h
            rw [hG]; exact h
          have HGO := Lib.hid hgow
          have HG := Lib.hid hG
          clear hv ho hx hG hgow
          go_wp2_with (at_builtin; refine wpList_append_row _ rfl (.tmp 33) (.tmp 35) 30 rfl (w.heap.size + 1) 3 iN (.int .i64 0) 1 8 Try.underlying30 HIN.out.1 HIN.out.2.1 HIN.out.2.2.1 HIN.out.2.2.2 rfl (by decide) _ k (G.map (.int .i64)) rfl (World.ownsRow.alloc HGO.out _) ⟨w2.heap.size, 0, none⟩ 1 1 [.int .i64 x] rfl rfl ?d1 ?d2 (by decide) ?d3 ?d4 ?d5 ?_)
          case d1 => exact news1 _ _ _
          case d2 => simp [Value.oneCell']
          case d3 => rw [HML.out]; omega
          case d4 => omega
          case d5 => simp; omega
          intro v2 w3 hown hgr hnew
          have hr3 : NumRow w3 (w.heap.size + 1) v2 (baVs s l (k + 1)) := by
            unfold NumRow
            rw [baVs_len, baVs_succ, List.map_append, ← HG.out, ← HXE.out]
            exact hown
          have hgfr : Fr (fun b => u6.ownBlock = some b) w2 w3 := (show Fr (fun b => u6.ownBlock = some b) w2 _ from Fr.of_below ((Below.refl w2.heap.size w2).alloc (Nat.le_refl _) (.cells #[.int .i64 x] 3))).trans (fr_grown hgr) (fun b hb => .inl hb)
          have hge := own_ge HGO.out
          have H3 := Lib.hid (And.intro hr3 (And.intro (K3.out.fr hgfr hge HSL.out.1) (L3.out.fr hgfr (fun b hb h => by have := hge b h; have := HSL.out.2 b hb; omega))))
          clear hown hgr hnew hr3 hgfr hge
          go_wp2_with fail
          go_roundw
          case rel => exact ⟨k + 1, by omega, by go_num, HX.out, H3.out.1, H3.out.2.1, H3.out.2.2⟩
          case measure => simp [intOf]; omega
      · have hf : baB s l = true := by rw [HBB.out]; have := HQ.out; rwa [show k = s.m.length by omega] at this
        have HF := Lib.hid (And.intro hf (show NumRow wr w.heap.size u6 (baVs s l s.m.length) from by
          have h := HR.out
          rw [show k = s.m.length by omega] at h
          exact ownsRow_low h (Nat.le_succ _)))
        clear hf
        go_wp2_with fail
        go_ret2
        exact BaPost.yes HF.out.1 K2.out.done HF.out.2
end Go.Proofs.Ytohogojphnlhpaa

/- impl.BuildAll -/
namespace Go.Proofs.Ytohogojphnlhpaa
open Go.RowKit

theorem irow_row {w : World} {g base : Nat} {l : List Int} (h : IRow w g l.length l) (hb : base ≤ g) (hl : l.length ≤ 9223372036854775807) : NumRow w base (.slice (some ⟨g, 0, none⟩) l.length l.length) l := by
  obtain ⟨cs, h1, h2, h3⟩ := h
  refine ElRow.of_blk (f := Value.int .i64) h1 hb (List.ext_getElem (by simp [h2]) fun i hi1 hi2 => ?_) hl
  have h := h3 i (by simpa using hi2)
  obtain ⟨_, h⟩ := Array.getElem?_eq_some_iff.1 h
  simp [h]
theorem IRow.set_snoc {w : World} {g n : Nat} {l : List Int} (h : IRow w g n l) (hl : l.length < n) (x : Int) : IRow (w.setCell ⟨g, l.length, none⟩ (.int .i64 x)) g n (l ++ [x]) := by
  obtain ⟨cs, h1, h2, h3⟩ := h
  refine ⟨_, h1.set_ _ _, by simp [h2], fun i hi => ?_⟩
  rw [List.length_append, List.length_singleton] at hi
  rw [Array.getElem?_setIfInBounds]
  by_cases hil : l.length = i
  · subst hil
    rw [if_pos rfl, if_pos (by omega)]; simp
  · rw [if_neg hil, List.getElem_append_left (by omega)]
    exact h3 i (by omega)
theorem IRow.fr {D : Nat → Prop} {w w' : World} {g n : Nat} {l : List Int} (h : IRow w g n l) (hf : Fr D w w') (hD : ¬ D g) : IRow w' g n l := by
  obtain ⟨cs, h1, h2, h3⟩ := h
  exact ⟨cs, h1.fr hf hD, h2, h3⟩
theorem IRow.below {w w' : World} {g n : Nat} {l : List Int} (h : IRow w g n l) (hb : Below w.heap.size w w') : IRow w' g n l := by
  obtain ⟨cs, h1, h2, h3⟩ := h
  exact ⟨cs, h1.below hb h1.lt, h2, h3⟩
theorem IRow.lt {w : World} {g n : Nat} {l : List Int} (h : IRow w g n l) : g < w.heap.size := by obtain ⟨_, h1, _⟩ := h; exact h1.lt

set_option maxRecDepth 100000 in
set_option maxHeartbeats 4000000 in
theorem implAll_any (s : Sh) (l : List Int) (w : World) (S0 S' : Nat → Prop) (a : Option Addr) (c : Nat) (a' : Option Addr) (c' : Nat) (ai : Option Addr) (ci : Nat) (h0 : ShAt w S0 s a c a' c') (hl : IntsAt w S' l ai ci) :
    Calls Try.prog 19 #[.agg #[.slice a s.m.length c, .slice a' s.t.length c'], .slice ai l.length ci] w (BaPost s l w) := by
  obtain ⟨S, hSd⟩ : ∃ S : Nat → Prop, S = fun b => S0 b ∧ b < w.heap.size := ⟨_, rfl⟩
  have hSl : ∀ b, S b → b < w.heap.size := by rw [hSd]; exact fun b h => h.2
  have h : ShAt w S s a c a' c' := by rw [hSd]; exact h0.lim
  have HSL := Lib.hid hSl
  clear h0 hSd hSl
  have K0 := Lib.hid (Ks.start (ty := 26) h)
  have L0 := Lib.hid (hl.alloc (.cells #[.slice a s.m.length c, .slice a' s.t.length c'] 26))
  clear h hl
  obtain ⟨x0, x1⟩ := K0.out.box
  cases hin : inOk s l
  · have HNO := Lib.hid (show baB s l = false by unfold baB; rw [hin]; rfl)
    have HI := Lib.hid hin
    clear hin
    go_enter Try.func19, Try.ntmps19
    go_wp2_with fail
    refine (implInputs_any s l _ S S' a c a' c' ai ci K0.out.2 L0.out).mono ?_
    rintro e w1 ⟨rfl, hb⟩
    rw [HI.out]
    have K1 := Lib.hid (K0.out.step hb)
    clear hb x0 x1
    go_wp2_with fail
    go_ret2
    exact BaPost.no HNO.out K1.out.done (World.ownsRow_nil _ _ _ _)
  · have hok := (inOk_of hin).1
    have hll := (inOk_of hin).2.1
    have hmb : s.m.length ≤ 10 := (Sh.ok_iff.1 hok).1
    have hbb : baB s l = baTo s l s.m.length := by unfold baB; rw [hin]; rfl
    have HBB := Lib.hid hbb
    have HI := Lib.hid hin
    have HOK := Lib.hid hok
    obtain ⟨n, hn⟩ : ∃ n, n = s.m.length := ⟨_, rfl⟩
    have HN := Lib.hid hn
    have hll2 : l.length = n := by omega
    have HLL := Lib.hid hll2
    have hn10 : n ≤ 10 := by omega
    obtain ⟨i0, hi, hz0, hz1, hz2⟩ := info_parts infoInt
    have hmk := fun W => run_make_rowN (P := Try.prog) 30 3 i0 _ Try.underlying30 hi hz0 .i64 .i64 n n (Nat.le_refl _) (by rw [hz2]; omega) (by omega) W
    rw [hz1] at hmk
    clear hin hbb hok hll hn hll2 hmb
    go_enter Try.func19, Try.ntmps19
    go_wp2_with fail
    refine (implInputs_any s l _ S S' a c a' c' ai ci K0.out.2 L0.out).mono ?_
    rintro e w1 ⟨rfl, hb⟩
    rw [HI.out]
    have K1 := Lib.hid (K0.out.step hb)
    have L1 := Lib.hid (L0.out.below hb)
    clear hb x0 x1 K0 L0
    obtain ⟨x0, x1⟩ := K1.out.box
    rw [HLL.out]
    have hwlt : w.heap.size < w1.heap.size := by have := K1.out.size; omega
    go_wp2_with fail
    clear hmk
    have HC2 := Lib.hid (nodes_any' s l _ S S' a c a' c' ai ci (K1.out.2.alloc (.cells (madeCells #[.int .i64 0] n) 3)) (L1.out.alloc (.cells (madeCells #[.int .i64 0] n) 3)) HI.out)
    have hm1 : (madeCells #[Value.int IntKind.i64 0] n).size = n := by rw [size_madeCells]
    have hir : IRow (w1.alloc (.cells (madeCells #[.int .i64 0] n) 3)) w1.heap.size n [] := ⟨_, heap_alloc_new w1 _, hm1, by simp⟩
    have K2 := Lib.hid (K1.out.alloc (.cells (madeCells #[.int .i64 0] n) 3))
    have hs2 : (w1.alloc (.cells (madeCells #[.int .i64 0] n) 3)).heap.size = w1.heap.size + 1 := by simp
    obtain ⟨W, hW⟩ : ∃ W, W = w1.alloc (.cells (madeCells #[.int .i64 0] n) 3) := ⟨_, rfl⟩
    rw [← hW] at HC2 hir K2 hs2 ⊢
    rw [HLL.out] at HC2
    obtain ⟨gv, hgv⟩ : ∃ g, g = w1.heap.size := ⟨_, rfl⟩
    rw [← hgv] at hir hs2 hwlt ⊢
    have HIR := Lib.hid hir
    clear hW hm1 hir K1 L1 x0 x1 hgv
    refine HC2.out.mono ?_
    rintro e w3 ⟨g, b, rfl, hb1, hg1, hnb, hp, hnd, hb⟩
    rw [← HN.out] at hp hnd hnb ⊢
    have hS : ∀ b, (fun b => S b ∧ b < W.heap.size) b → b < g := fun b hb => by have := hb.2; omega
    have HS := Lib.hid hS
    have HP3 := Lib.hid (And.intro hp (And.intro (nds_start HOK.out hnd) (And.intro (K2.out.step hb).done (HIR.out.below hb))))
    have HNB := Lib.hid hnb
    have hs3 := hb.size
    have hgw : g + n ≤ w3.heap.size ∨ n = 0 := by
      rcases Nat.eq_zero_or_pos n with h | h
      · exact .inr h
      · obtain ⟨_, _, hl, _⟩ := hnd.node (i := n - 1) (by omega)
        exact .inl (by omega)
    have hbl : n = 0 ∨ b < w3.heap.size := by
      rcases Nat.eq_zero_or_pos n with h | h
      · exact .inl h
      · exact .inr (cell_lt (hp.cell h))
    clear HC2 hb hp hnd hS hnb HIR K2
    go_wp2_with fail
    go_loopw [20] (fun i wr => ∃ (k : Nat) (d : Int → Bool), k ≤ n ∧ i = .int .i64 k ∧ (∀ i, i < k → okS s l (i : Int) = true) ∧ (∀ q, (!s.mdI q) = true → d q = true) ∧ (∀ q, d q = true → okS s l q = true) ∧ PRow wr b g n n ∧
      Nds wr (fun b => S b ∧ b < W.heap.size) s g n (mpv s g n) (fun q => if d q = true then vsS s l q else vf l q) d ∧ Below w.heap.size w wr ∧ IRow wr gv n (baVs s l k)) (fun i _ => n - (intOf i).toNat)
    case atStart => exact ⟨0, fun k => !s.mdI k, by omega, rfl, fun i hi => by omega, fun _ h => h, fun k h => (gr_S HOK.out l).d0ok k h, HP3.out.1, HP3.out.2.1, HP3.out.2.2.1, HP3.out.2.2.2⟩
    case round =>
      obtain ⟨k, d, hk, rfl, hall, hlo, hhi, hp, hnd, hb, hir⟩ := hrel
      have H4 := Lib.hid (And.intro hall (And.intro hlo (And.intro hhi (And.intro hp (And.intro hnd (And.intro hb hir))))))
      clear HP3 hall hlo hhi hnd hb hir
      by_cases hlt : k < n
      · have hcell := hp.cell hlt
        clear hp
        go_wp2_with fail
        have hg := gr_S HOK.out l
        have hst := try_step (S := fun b => S b ∧ b < W.heap.size) (g := g) HI.out HS.out
        rw [← HN.out] at hg hst
        refine (finish_any hg hst hn10 HS.out wr d k hlt H4.out.2.1 H4.out.2.2.1 H4.out.2.2.2.2.1).mono ?_
        rintro e w4 ⟨d2, L, a4, c4, rfl, hat, hnd2, hdd, hdo, hfr, _, ⟨rfl, hdf⟩ | ⟨hne, hnok, hLc⟩⟩
        · obtain ⟨_, _, hgk, _, _, _, _, _, e14, _, _, _⟩ := hnd2.node hlt
          have e : (fun d k => if d k = true then vsS s l k else vf l k) d2 (k : Int) = vsS s l k := by simp only [hdf, if_true]
          rw [e] at e14
          obtain ⟨v, hv⟩ : ∃ v, v = vsS s l (k : Int) := ⟨_, rfl⟩
          rw [← hv] at e14
          have HV := Lib.hid hv
          have hgvn : ¬ ndB g n gv := fun h => by have := h.1; omega
          have hir4 := H4.out.2.2.2.2.2.2.fr hfr hgvn
          have hp4 := H4.out.2.2.2.1.fr hfr HNB.out
          have hb4 : Below w.heap.size w w4 := below_nd H4.out.2.2.2.2.2.1 hfr (by omega) H4.out.2.2.2.2.2.1.size
          obtain ⟨cs, hbk, hcs, _⟩ := id hir4
          have hf := hbk.frozen k
          have hx : w4.cell? ⟨gv, k, none⟩ = some (cs[k]'(by omega)) := by rw [hbk.cell k]; simp
          obtain ⟨y, hy⟩ : ∃ y, y = cs[k]'(by omega) := ⟨_, rfl⟩
          rw [← hy] at hx
          have hset := hir4.set_snoc (by rw [baVs_len]; exact hlt) v
          rw [baVs_len, hv, ← baVs_succ, ← hv] at hset
          have hfs : Fr (fun b => b = gv) w4 (w4.setCell ⟨gv, k, none⟩ (.int .i64 v)) := Fr.set' (D := fun b => b = gv) (Fr.of_below (Below.refl _ _)) ⟨gv, k, none⟩ rfl _
          have hnd5 := hnd2.fr hfs (fun b hb => by
            rintro (h | h)
            · have := HSL.out b h.1; omega
            · omega)
          have hok2 : ∀ i, i < k + 1 → okS s l (i : Int) = true := fun i hi => by
            by_cases hik : i = k
            · subst hik; exact hdo _ hdf
            · exact H4.out.1 i (by omega)
          have H5 := Lib.hid (And.intro hok2 (And.intro (fun q hq => hdd q (H4.out.2.1 q hq)) (And.intro hdo (And.intro (hp4.fr hfs (fun h => by
            have := hbk.lt
            rcases hbl with h2 | h2
            · omega
            · rw [h] at hb1; omega)) (And.intro hnd5 (And.intro (hb4.setCell (p := ⟨gv, k, none⟩) (by simp; omega) (.int .i64 v)) hset))))))
          have hgv4 : gv < w4.heap.size := hir4.lt
          clear hat hnd2 hdd hdo hfr hdf e hv hir4 hp4 hb4 hbk hcs hy hset hfs hnd5 hok2 hg hst hcell
          go_wp2_with fail
          go_roundw
          case rel => exact ⟨k + 1, d2, by omega, by go_num, H5.out.1, H5.out.2.1, H5.out.2.2.1, H5.out.2.2.2.1, H5.out.2.2.2.2.1, H5.out.2.2.2.2.2.1, H5.out.2.2.2.2.2.2⟩
          case measure => simp [intOf]; omega
        · have hb4 : Below w.heap.size w w4 := below_nd H4.out.2.2.2.2.2.1 hfr (by omega) H4.out.2.2.2.2.2.1.size
          have HB4 := Lib.hid hb4
          have HNO := Lib.hid (show baB s l = false by rw [HBB.out]; exact baTo_false (by rw [← HN.out]; exact hlt) hnok)
          have hlp2 : 0 < L.length := List.length_pos_iff.2 hne
          have hlp : decide ((0 : Int) < (L.length : Int)) = true := decide_eq_true (by omega)
          have hlp3 : decide (0 < L.length) = true := decide_eq_true hlp2
          have hLm : L.length ≤ 9223372036854775807 := by have := hat.1; have := hat.2.1; omega
          clear hat hnd2 hdd hdo hfr hnok hLc hb4 hg hst hcell hne
          go_wp2_with fail
          go_ret2
          exact BaPost.no HNO.out HB4.out (World.ownsRow_nil _ _ _ _)
      · obtain rfl : n = k := by omega
        have hbt : baTo s l n = true := by
          unfold baTo
          rw [List.all_eq_true]
          intro i hi
          exact H4.out.1 i (List.mem_range.1 hi)
        have HY := Lib.hid (show baB s l = true by rw [HBB.out, ← HN.out]; exact hbt)
        clear hbt hp
        go_wp2_with fail
        go_ret2
        refine BaPost.yes HY.out H4.out.2.2.2.2.2.1 ?_
        rw [← HN.out]
        have h := irow_row (base := w.heap.size) (show IRow wr gv (baVs s l n).length (baVs s l n) by rw [baVs_len]; exact H4.out.2.2.2.2.2.2) (by omega) (by rw [baVs_len]; omega)
        rw [baVs_len] at h
        exact h
end Go.Proofs.Ytohogojphnlhpaa

/- bounds of what BuildAll and CircleOf answer (pure) -/
namespace Go.Proofs.Ytohogojphnlhpaa

theorem cyc_bd {ch : Int → List Int} {ok : Int → Bool} {P : Int → Prop} (hx : ∀ k j, nxt ch ok k = some j → P j) : ∀ (f : Nat) (U : List Int) (k : Int), (∀ x ∈ U, P x) → P k → (∀ x ∈ cyc ch ok f U k, P x) ∧ (cyc ch ok f U k).length ≤ U.length + f
  | 0, U, k, _, _ => by unfold cyc; simp
  | f + 1, U, k, hU, hk => by
    unfold cyc
    split
    · exact ⟨fun x h => hU x (List.mem_of_mem_drop h), by rw [List.length_drop]; omega⟩
    · split
      · rename_i j hj
        obtain ⟨h1, h2⟩ := cyc_bd hx f (U ++ [k]) j (fun x h => by
          rcases List.mem_append.1 h with h | h
          · exact hU x h
          · rw [List.mem_singleton.1 h]; exact hk) (hx k j hj)
        exact ⟨h1, by rw [List.length_append, List.length_singleton] at h2; omega⟩
      · exact ⟨by simp, by simp⟩

theorem sh_len {s : Sh} (h : s.ok = true) : s.m.length ≤ 10 := by
  unfold Sh.ok at h
  simp only [Bool.and_eq_true, decide_eq_true_eq] at h
  omega

theorem coL_bd (s : Sh) (l : List Int) (key : Int) : (∀ x ∈ coL s l key, 0 ≤ x ∧ x < 10) ∧ (coL s l key).length ≤ 11 := by
  unfold coL
  split
  · rename_i hb
    unfold coB at hb
    rw [Bool.and_eq_true, Bool.and_eq_true, decide_eq_true_eq] at hb
    obtain ⟨⟨hin, hk⟩, _⟩ := hb
    obtain ⟨hok, _, _⟩ := inOk_of hin
    have hn := sh_len hok
    have hg := gr_S hok l
    have hP : ∀ j, okS s l j = false → 0 ≤ j ∧ j < 10 := by
      intro j hj
      have hd : (fun k => !s.mdI k) j = false := by
        cases hd : (fun k => !s.mdI k) j
        · rfl
        · rw [hg.d0ok j hd] at hj; cases hj
      have := hg.inn j hd
      omega
    obtain ⟨h1, h2⟩ := cyc_bd (ch := chS s l) (ok := okS s l) (P := fun j => 0 ≤ j ∧ j < 10) (fun k j hj => hP j (nxt_some hj).2) (s.m.length + 1 - 0) [] key (by simp) (by omega)
    unfold circ
    exact ⟨h1, by simpa using Nat.le_trans h2 (by simp; omega)⟩
  · exact ⟨by simp, by simp⟩

theorem baL_bd (s : Sh) (l : List Int) : (∀ x ∈ baL s l, 0 ≤ x ∧ x ≤ 96) ∧ (baL s l).length ≤ 10 := by
  unfold baL
  split
  · rename_i hb
    unfold baB at hb
    rw [Bool.and_eq_true] at hb
    obtain ⟨hin, _⟩ := hb
    have hn := sh_len (inOk_of hin).1
    unfold baVs
    refine ⟨fun x hx => ?_, by simpa using hn⟩
    obtain ⟨i, _, rfl⟩ := List.mem_map.1 hx
    exact vsS_bd hin _
  · exact ⟨by simp, by simp⟩
end Go.Proofs.Ytohogojphnlhpaa

/- the walk of laws.FnBuildKey -/
namespace Go.Proofs.Ytohogojphnlhpaa
open Go.RowKit

/-- What BuildAll answers, key by key. -/
theorem ba_get {s : Sh} {l : List Int} (h : baB s l = true) {k : Nat} (hk : k < s.m.length) (hk' : k < (baL s l).length) : (baL s l)[k] = vsS s l k := by
  have e : baL s l = baVs s l s.m.length := by unfold baL; rw [if_pos h]
  apply Option.some.inj
  rw [← List.getElem?_eq_getElem hk', e]
  unfold baVs
  simp [hk]
theorem ba_len {s : Sh} {l : List Int} (h : baB s l = true) : (baL s l).length = s.m.length := by
  unfold baL; rw [if_pos h, baVs_len]
/-- A made key has the value of its task with all values. -/
theorem ba_task {s : Sh} {l : List Int} (h : baB s l = true) {k : Nat} (hm : s.mdI (k : Int) = true) (hk : k < s.m.length) : tvV (s.tk k) (baL s l) = vsS s l (k : Int) := by
  have h' := h
  unfold baB baTo at h'
  rw [Bool.and_eq_true, List.all_eq_true] at h'
  obtain ⟨hok, hll, _⟩ := inOk_of h'.1
  have hb := baL_bd s l
  have hv : vok (baL s l) = true := by
    unfold vok
    rw [Bool.and_eq_true, decide_eq_true_eq, List.all_eq_true]
    exact ⟨hb.2, fun x hx => by have := hb.1 x hx; simp [vin]; omega⟩
  unfold tvV
  rw [Sh.tk_ok hok k, hv]
  simp only [Bool.and_self, if_true]
  have hf := (Sh.tk_fit hok k).1
  have h1 := (pre_keys (fun j => decide (0 ≤ j)) (vsS s l) (vf (baL s l)) (fun j hj => by
    have hj0 : 0 ≤ j := by simpa using hj
    obtain ⟨i, rfl⟩ : ∃ i : Nat, j = i := ⟨j.toNat, by omega⟩
    by_cases hi : i < s.m.length
    · have hi' : i < (baL s l).length := by rw [ba_len h]; exact hi
      rw [vf_in hi', ba_get h hi hi']
    · rw [vf_out (by rw [ba_len h]; exact hi), vsS_free hok (by
        cases hx : s.mdI (i : Int)
        · rfl
        · have := mdI_bd hx; omega), vf_out (by omega)]) (s.tk k) hf).2 (fun j hj => by have := (T.kys_bd _ _ hf).1 j hj; simpa using this.1)
  rw [h1.1, vsS_made hok hm (h'.2 k (by simpa using hk))]
  rfl

theorem bk_in {s : Sh} {l : List Int} {key : Int} (h : bkOk s l key = true) : 0 ≤ key ∧ key < s.m.length := by
  unfold bkOk at h
  simp only [Bool.and_eq_true, decide_eq_true_eq] at h
  exact h.2.1

set_option maxRecDepth 100000 in
set_option maxHeartbeats 4000000 in
theorem walk_buildKey (w : World) (a : Option Addr) (n c : Nat) (h : CodeAt w a n c) :
    Calls Try.prog 4 #[.slice a n c] w fun e w' => e = .returned (.bool true) ∧ Below w.heap.size w w' := by
  have hn := h.1
  have hc := h.2.1
  have HC := Lib.hid h
  clear h
  by_cases hl : 1048576 < n
  · go_enter Try.func4, Try.ntmps4
    go_wp2_with fail
    go_ret
    exact ⟨rfl, Below.refl _ _⟩
  go_enter Try.func4, Try.ntmps4
  go_wp2_with fail
  refine (drawBuildKey_any _ a n c HC.out).mono ?_
  rintro e w1 ⟨s, av, cv, a', c', l, ai, ci, key, rfl, hat, hin, htl, hml, hnl, hll, hb⟩
  have hsz1 := hb.size
  have HT1 := Lib.hid (hat.alloc (.cells #[.slice av s.m.length cv, .slice a' s.t.length c'] 26))
  have HI1 := Lib.hid (hin.alloc (.cells #[.slice av s.m.length cv, .slice a' s.t.length c'] 26))
  have HB1 := Lib.hid (Blk.new w1 26 #[.slice av s.m.length cv, .slice a' s.t.length c'])
  have HX1 := Lib.hid (hb.alloc hsz1 (.cells #[.slice av s.m.length cv, .slice a' s.t.length c'] 26))
  obtain ⟨v, hv⟩ : ∃ v, v = bkV s l key := ⟨_, rfl⟩
  obtain ⟨b, hbb⟩ : ∃ b, b = bkOk s l key := ⟨_, rfl⟩
  have HV := Lib.hid hv
  have HBB := Lib.hid hbb
  have HTL := Lib.hid htl
  clear hat hin hb HC hv hbb htl
  go_wp2_with fail
  refine (implBuildKey_any s l key _ _ _ av cv a' c' ai ci HT1.out HI1.out).mono ?_
  rintro e w2 ⟨rfl, hb⟩
  rw [← HV.out, ← HBB.out]
  have hsz2 := hb.size
  simp only [World.size_alloc] at hsz2
  have HT2 := Lib.hid (HT1.out.below hb)
  have HI2 := Lib.hid (HI1.out.below hb)
  have HB2 := Lib.hid (HB1.out.below hb (by simp))
  have HX2 := Lib.hid (HX1.out.trans (hb.mono (by simp; omega)))
  clear hb HT1 HI1 HB1 HX1
  obtain ⟨x0, x1, f0, f1⟩ := HB2.out.two
  go_wp2_with fail
  refine (specBuildKey_any s l key _ _ _ av cv a' c' ai ci HT2.out (by omega) HI2.out).mono ?_
  rintro e w3 ⟨rfl, hb⟩
  rw [← HV.out, ← HBB.out]
  have hsz3 := hb.size
  have HT3 := Lib.hid (HT2.out.below hb)
  have HI3 := Lib.hid (HI2.out.below hb)
  have HB3 := Lib.hid (HB2.out.below hb (by omega))
  have HX3 := Lib.hid (HX2.out.trans (hb.mono (by omega)))
  clear hb HT2 HI2 HB2 HX2 x0 x1 f0 f1
  obtain ⟨x0, x1, f0, f1⟩ := HB3.out.two
  have hnv : (v != v) = false := by simp
  have hnb : (b != b) = false := by simp
  go_wp2_with fail
  clear hnv hnb
  refine (implAll_any s l _ _ _ av cv a' c' ai ci HT3.out HI3.out).mono ?_
  rintro e w4 ⟨hb, v4, rfl, hr4⟩
  have hbd := baL_bd s l
  obtain ⟨L, hL⟩ : ∃ L, L = baL s l := ⟨_, rfl⟩
  rw [← hL] at hr4 hbd
  obtain ⟨a4, c4, rfl, hi4⟩ := hr4.at (fun x hx => by have := hbd.1 x hx; unfold i64ok; omega)
  obtain ⟨z, hz⟩ : ∃ z, z = baB s l := ⟨_, rfl⟩
  rw [← hz]
  have hsz4 := hb.size
  have HT4 := Lib.hid (HT3.out.below hb)
  have HL4 := Lib.hid hi4
  have HB4 := Lib.hid (HB3.out.below hb (by omega))
  have HX4 := Lib.hid (HX3.out.trans (hb.mono (by omega)))
  have HLL := Lib.hid hL
  have HZ := Lib.hid hz
  clear hb HT3 HI3 HB3 HX3 x0 x1 f0 f1 hr4 hi4 hL hz hbd
  cases z
  · go_wp2_with fail
    go_ret
    exact ⟨rfl, HX4.out⟩
  cases b
  · go_wp2_with fail
    go_ret
    exact ⟨rfl, HX4.out⟩
  have hkey := bk_in HBB.out.symm
  obtain ⟨k, rfl⟩ : ∃ k : Nat, key = k := ⟨key.toNat, by omega⟩
  have hkm : k < s.m.length := by omega
  have hkt : k < s.t.length := by have := HTL.out; omega
  have hlen : L.length = s.m.length := by rw [HLL.out]; exact ba_len HZ.out.symm
  have hkl : k < L.length := by omega
  have hvv : v = vsS s l (k : Int) := by
    have := HV.out
    unfold bkV at this
    rw [if_pos HBB.out.symm] at this
    exact this
  have hLk : L[k] = v := by
    rw [hvv]
    have e := HLL.out
    subst e
    exact ba_get HZ.out.symm hkm hkl
  have htk : s.tk k = s.t[k] := getD_len hkt
  have hmd : s.m[k] = true → tvV s.t[k] L = v := fun hm => by
    rw [hvv, HLL.out, ← htk]
    refine ba_task HZ.out.symm ?_ hkm
    rw [mdI_nat]
    unfold Sh.md
    rw [getD_len hkm]
    exact hm
  obtain ⟨bt, ot, a2, c2, rfl, _, _, e0, e1, e2, hs, ok1, ok2⟩ := HT4.out.2.elem (Below.refl _ _) hkt
  obtain ⟨t, ht⟩ : ∃ t, t = s.t[k] := ⟨_, rfl⟩
  rw [← ht] at e0 e1 e2 hs hmd
  obtain ⟨mk, hmk⟩ : ∃ m, m = s.m[k] := ⟨_, rfl⟩
  rw [← hmk] at hmd
  have HMD := Lib.hid hmd
  have HMK := Lib.hid hmk
  have HLK := Lib.hid hLk
  have HS := Lib.hid hs
  have HLN := Lib.hid hlen
  obtain ⟨x0, x1, f0, f1⟩ := HB4.out.two
  clear hmd hmk hLk hs hlen hvv htk ht hkey
  go_wp2_with fail
  refine (implValue_any t L _ _ _ a2 a4 c2 c4 HS.out HL4.out).mono ?_
  rintro e w5 ⟨rfl, hb⟩
  obtain ⟨u, hu⟩ : ∃ u, u = tvV t L := ⟨_, rfl⟩
  obtain ⟨o, ho⟩ : ∃ u, u = (t.ok && vok L) := ⟨_, rfl⟩
  rw [← hu, ← ho]
  have HU := Lib.hid hu
  have hbk := HB4.out.below hb (by omega)
  obtain ⟨bi, oi, rfl, _, _, hci⟩ := HL4.out.get hb hkl
  obtain ⟨bm, om, rfl, _, _, hcm⟩ := HT4.out.1.get hb hkm
  rw [HLK.out] at hci
  rw [← HMK.out] at hcm
  have HX5 := Lib.hid (HX4.out.trans (hb.mono (by omega)))
  clear hb x0 x1 f0 f1 e0 e1 e2 hu ho
  obtain ⟨x0, x1, f0, f1⟩ := hbk.two
  clear hbk
  have hvv : (v == v) = true := by simp
  cases mk
  · go_wp2_with fail
    go_ret
    exact ⟨rfl, HX5.out⟩
  · have huv : u = v := by rw [HU.out]; exact HMD.out rfl
    subst huv
    go_wp2_with fail
    go_ret
    exact ⟨rfl, HX5.out⟩
end Go.Proofs.Ytohogojphnlhpaa

/- brInts -/
namespace Go.Proofs.Ytohogojphnlhpaa
open Go.RowKit

/-- brInts of two readings of one list -/
theorem brInts_any (w : World) (S S' : Nat → Prop) (l : List Int) (a a' : Option Addr) (c c' : Nat) (h : IntsAt w S l a c) (h' : IntsAt w S' l a' c') :
    Calls Try.prog 23 #[.slice a l.length c, .slice a' l.length c'] w fun e w' => e = .returned (.bool true) ∧ Below w.heap.size w w' := by
  have hlen : l.length ≤ 9223372036854775807 := by have := h.1; have := h.2.1; omega
  have H := Lib.hid h
  have H' := Lib.hid h'
  clear h h'
  have hne : (((l.length : Nat) : Int) != ((l.length : Nat) : Int)) = false := by simp
  go_enter Try.func23, Try.ntmps23
  go_wp2_with fail
  clear hne
  go_loopw [5] (fun i wr => ∃ k : Nat, k ≤ l.length ∧ i = .int .i64 k ∧ Below w.heap.size w wr) (fun i _ => l.length - (intOf i).toNat)
  case atStart => exact ⟨0, by omega, rfl, Below.refl _ _⟩
  case round =>
    obtain ⟨k, hk, rfl, hb⟩ := hrel
    have HB := Lib.hid hb
    clear hb
    by_cases hlt : k < l.length
    · obtain ⟨b, o, rfl, hbl, _, hc⟩ := H.out.get HB.out hlt
      obtain ⟨b', o', rfl, hbl', _, hc'⟩ := H'.out.get HB.out hlt
      have hne : (l[k] != l[k]) = false := by simp
      obtain ⟨v, hv⟩ : ∃ v, v = l[k] := ⟨_, rfl⟩
      rw [← hv] at hc hc' hne
      clear hv
      go_wp2_with fail
      go_quiet (fail)
      go_wp2_with fail
      go_roundw
      case rel => exact ⟨k + 1, by omega, by go_num, below_drewN HB.out _⟩
      case measure => simp [intOf]; omega
    · go_wp2_with fail
      go_ret
      exact ⟨rfl, HB.out⟩
end Go.Proofs.Ytohogojphnlhpaa

/- the walk of laws.FnBuildAll -/
namespace Go.Proofs.Ytohogojphnlhpaa
open Go.RowKit

/-- An input has the value that it was given. -/
theorem ba_free {s : Sh} {l : List Int} (h : baB s l = true) {k : Nat} (hm : s.mdI (k : Int) = false) (hk : k < l.length) : vsS s l (k : Int) = l[k] := by
  unfold baB at h
  rw [Bool.and_eq_true] at h
  rw [vsS_free (inOk_of h.1).1 hm, vf_in hk]
theorem ba_some {s : Sh} {l : List Int} (h : 0 < (baL s l).length) : baB s l = true := by
  cases hb : baB s l
  · unfold baL at h; rw [if_neg (by rw [hb]; simp)] at h; simp at h
  · rfl

set_option maxRecDepth 100000 in
set_option maxHeartbeats 4000000 in
theorem walk_buildAll (w : World) (a : Option Addr) (n c : Nat) (h : CodeAt w a n c) :
    Calls Try.prog 5 #[.slice a n c] w fun e w' => e = .returned (.bool true) ∧ Below w.heap.size w w' := by
  have hn := h.1
  have hc := h.2.1
  have HC := Lib.hid h
  clear h
  by_cases hl : 1048576 < n
  · go_enter Try.func5, Try.ntmps5
    go_wp2_with fail
    go_ret
    exact ⟨rfl, Below.refl _ _⟩
  go_enter Try.func5, Try.ntmps5
  go_wp2_with fail
  refine (drawBuildAll_any _ a n c HC.out).mono ?_
  rintro e w1 ⟨s, av, cv, a', c', l, ai, ci, rfl, hat, hin, htl, hml, hnl, hll, hb⟩
  have hsz1 := hb.size
  have HT1 := Lib.hid (hat.alloc (.cells #[.slice av s.m.length cv, .slice a' s.t.length c'] 26))
  have HI1 := Lib.hid (hin.alloc (.cells #[.slice av s.m.length cv, .slice a' s.t.length c'] 26))
  have HB1 := Lib.hid (Blk.new w1 26 #[.slice av s.m.length cv, .slice a' s.t.length c'])
  have HX1 := Lib.hid (hb.alloc hsz1 (.cells #[.slice av s.m.length cv, .slice a' s.t.length c'] 26))
  have HTL := Lib.hid htl
  have hbd := baL_bd s l
  obtain ⟨L, hL⟩ : ∃ L, L = baL s l := ⟨_, rfl⟩
  obtain ⟨z, hz⟩ : ∃ z, z = baB s l := ⟨_, rfl⟩
  rw [← hL] at hbd
  have hup : ∀ w e w', BaPost s l w e w' → Below w.heap.size w w' ∧ ∃ (a : Option Addr) (c : Nat), e = .returned (.tuple #[.slice a L.length c, .bool z]) ∧ IntsAt w' (fun b => w.heap.size ≤ b) L a c := by
    rintro w e w' ⟨hb, v, rfl, hr⟩
    rw [← hL] at hr
    obtain ⟨a, c, rfl, hi⟩ := hr.at (fun x hx => by have := hbd.1 x hx; unfold i64ok; omega)
    exact ⟨hb, a, c, by rw [hz], hi⟩
  have HUP := Lib.hid hup
  have HLL := Lib.hid hL
  have hL10 : L.length ≤ 10 := hbd.2
  clear hat hin hb HC htl hup hL hz hbd
  go_wp2_with fail
  refine (implAll_any s l _ _ _ av cv a' c' ai ci HT1.out HI1.out).mono ?_
  intro e w2 hp
  obtain ⟨hb, a2, c2, rfl, hi2⟩ := HUP.out _ _ _ hp
  have hsz2 := hb.size
  simp only [World.size_alloc] at hsz2
  have HT2 := Lib.hid (HT1.out.below hb)
  have HI2 := Lib.hid (HI1.out.below hb)
  have HB2 := Lib.hid (HB1.out.below hb (by simp))
  have HX2 := Lib.hid (HX1.out.trans (hb.mono (by simp; omega)))
  have HL2 := Lib.hid hi2
  clear hb hp hi2 HT1 HI1 HB1 HX1
  obtain ⟨x0, x1, f0, f1⟩ := HB2.out.two
  go_wp2_with fail
  refine (specAll_any s l _ _ _ av cv a' c' ai ci HT2.out (by omega) HI2.out).mono ?_
  intro e w3 hp
  obtain ⟨hb, a3, c3, rfl, hi3⟩ := HUP.out _ _ _ hp
  have hsz3 := hb.size
  have HT3 := Lib.hid (HT2.out.below hb)
  have HI3 := Lib.hid (HI2.out.below hb)
  have HB3 := Lib.hid (HB2.out.below hb (by omega))
  have HX3 := Lib.hid (HX2.out.trans (hb.mono (by omega)))
  have HL3 := Lib.hid (HL2.out.below hb)
  have HM3 := Lib.hid hi3
  clear hb hp hi3 HT2 HI2 HB2 HX2 HL2 x0 x1 f0 f1
  have hnb : (z != z) = false := by simp
  go_wp2_with fail
  refine (brInts_any _ _ _ L a2 a3 c2 c3 HL3.out HM3.out).mono ?_
  rintro e w4 ⟨rfl, hb⟩
  have hsz4 := hb.size
  have HT4 := Lib.hid (HT3.out.below hb)
  have HI4 := Lib.hid (HI3.out.below hb)
  have HB4 := Lib.hid (HB3.out.below hb (by omega))
  have HX4 := Lib.hid (HX3.out.trans (hb.mono (by omega)))
  have HL4 := Lib.hid (HL3.out.below hb)
  clear hb HT3 HI3 HB3 HX3 HL3 HM3
  go_wp2_with fail
  clear hnb
  go_loopw [9, 10, 11] (fun i _ _ wr => ∃ k : Nat, k ≤ L.length ∧ i = .int .i64 k ∧ Below w4.heap.size w4 wr) (fun i _ _ _ => L.length - (intOf i).toNat)
  case atStart => exact ⟨0, by omega, rfl, Below.refl _ _⟩
  case round =>
    obtain ⟨k, hk, rfl, hb⟩ := hrel
    have hszr := hb.size
    have HXR := Lib.hid (HX4.out.trans (hb.mono (by omega)))
    have HBW := Lib.hid hb
    have hbk := HB4.out.below hb (by omega)
    have HTR := Lib.hid (HT4.out.below hb)
    have HBR := Lib.hid hbk
    have HIR := Lib.hid (HI4.out.below hb)
    have HLR := Lib.hid (HL4.out.below hb)
    clear hb
    by_cases hlt : k < L.length
    · have hz : baB s l = true := ba_some (by rw [← HLL.out]; omega)
      have hlen : L.length = s.m.length := by rw [HLL.out]; exact ba_len hz
      have hkm : k < s.m.length := by omega
      have hkt : k < s.t.length := by have := HTL.out; omega
      have hkl : k < l.length := by
        have h' := hz
        unfold baB at h'
        rw [Bool.and_eq_true] at h'
        have := (inOk_of h'.1).2.1
        omega
      obtain ⟨x, hx⟩ : ∃ x, x = vsS s l (k : Int) := ⟨_, rfl⟩
      have hLk : L[k] = x := by
        rw [hx]
        have e := HLL.out
        subst e
        exact ba_get hz hkm hlt
      have htk : s.tk k = s.t[k] := getD_len hkt
      have hmm : s.mdI (k : Int) = s.m[k] := by rw [mdI_nat]; unfold Sh.md; rw [getD_len hkm]
      have hmd : s.m[k] = true → tvV s.t[k] L = x := fun hm => by
        rw [hx, HLL.out, ← htk]
        exact ba_task hz (hmm.trans hm) hkm
      have hfr : s.m[k] = false → l[k] = x := fun hm => by
        rw [hx]
        exact (ba_free hz (hmm.trans hm) hkl).symm
      obtain ⟨bt, ot, at_, ct, rfl, _, _, e0, e1, e2, hs, ok1, ok2⟩ := HTR.out.2.elem (Below.refl _ _) hkt
      obtain ⟨t, ht⟩ : ∃ t, t = s.t[k] := ⟨_, rfl⟩
      rw [← ht] at e0 e1 e2 hs hmd
      obtain ⟨mk, hmk⟩ : ∃ m, m = s.m[k] := ⟨_, rfl⟩
      rw [← hmk] at hmd hfr
      have HMD := Lib.hid hmd
      have HFD := Lib.hid hfr
      have HMK := Lib.hid hmk
      have HLK := Lib.hid hLk
      have HS := Lib.hid hs
      obtain ⟨x0, x1, f0, f1⟩ := hbk.two
      clear hmd hfr hmk hLk hs hlen htk hmm ht hz hx hbk
      go_wp2_with fail
      refine (implValue_any t L _ _ _ at_ a2 ct c2 HS.out HLR.out).mono ?_
      rintro e w5 ⟨rfl, hb⟩
      obtain ⟨u, hu⟩ : ∃ u, u = tvV t L := ⟨_, rfl⟩
      obtain ⟨o, ho⟩ : ∃ u, u = (t.ok && vok L) := ⟨_, rfl⟩
      rw [← hu, ← ho]
      have HU := Lib.hid hu
      have hbk := HBR.out.below hb HBR.out.lt
      obtain ⟨bi, oi, rfl, _, _, hci⟩ := HLR.out.get hb hlt
      obtain ⟨bm, om, rfl, _, _, hcm⟩ := HTR.out.1.get hb hkm
      obtain ⟨bl, ol, rfl, _, _, hcl⟩ := HIR.out.get hb hkl
      rw [HLK.out] at hci
      rw [← HMK.out] at hcm
      have HB5 := Lib.hid (HBW.out.trans (hb.mono hszr))
      clear hb x0 x1 f0 f1 e0 e1 e2 hu ho
      obtain ⟨x0, x1, f0, f1⟩ := hbk.two
      clear hbk
      have hxx : (x != x) = false := by simp
      cases mk
      · rw [HFD.out rfl] at hcl
        go_wp2_with fail
        go_quiet (fail)
        go_wp2_with fail
        go_roundw
        case rel => exact ⟨k + 1, by omega, by go_num, below_drewN HB5.out _⟩
        case measure => simp [intOf]; omega
      · have hux : u = x := by rw [HU.out]; exact HMD.out rfl
        subst hux
        clear hcl
        go_wp2_with fail
        go_quiet (fail)
        go_wp2_with fail
        go_roundw
        case rel => exact ⟨k + 1, by omega, by go_num, below_drewN HB5.out _⟩
        case measure => simp [intOf]; omega
    · have HLE := Lib.hid (show k = L.length by omega)
      clear hbk
      go_wp2_with fail
      go_ret
      exact ⟨rfl, HXR.out⟩
end Go.Proofs.Ytohogojphnlhpaa

/- For every code the law FnBuildAll answers true: all values of a drawn sheet fit all its tasks and inputs, and BuildAll answers as its model. No condition. -/
namespace Go.Proofs.Ytohogojphnlhpaa
open Go.ChangeShapes Go.WideShapes Go.ChangeAt Go.RowKit Go.Joins

set_option maxRecDepth 100000 in
theorem buildAll_lifted (os : Os) (started : os.Started) (H : Type) (enc : TypeId × Value → H) :
    ReturnsInHanded {} Try.checked os 5 .any (Rows.fnBuildAllSpec.pre6 enc Try.prog Try.f5 Rows.fnBuildAllRow.domain false) (Rows.fnBuildAllSpec.post enc Try.prog Try.f5 false true false false) := by
  refine returnsInHanded_of_change (C := Try.checked) own started (by kernel_rfl) Try.func5
    (ChangeSpec.witness6 (enc := enc) (C := Try.checked) false ⟨#[], #[.slice none 0 0], []⟩ 8 (by kernel_rfl) (by kernel_rfl) (by kernel_rfl) (by kernel_rfl)) ?_
  intro W base args ds gs before hval0 hW _ _
  have hval : ∀ (j : Nat) t v, Try.f5.params[j]? = some t → args[j]? = some v → Value.okWide Try.prog W .any base t v := hval0
  have hW' := hW
  obtain ⟨p, q, hA0, hV, rfl, _, _⟩ := hW
  have hA : DataW.TrodAll enc Try.prog W 0 (fun _ => true) true Try.f5.params.toList args.toList ds p := hA0
  rw [Try.params5] at hA hval
  obtain ⟨v0, d0, rfl, rfl, h0⟩ := trodAll_one hA
  obtain ⟨rfl, rfl⟩ := trodVars_none hV
  obtain ⟨a, n, c, rfl, hcode⟩ := open_code Try.underlying22 Try.underlying5 cellsByte (okWide_slice Try.underlying22 (hval 0 22 v0 rfl rfl)) h0
  refine (walk_buildAll W a n c hcode).mono fun e W' ⟨he, hb⟩ => ?_
  subst he
  exact ⟨_, rfl, law_post laidOut rfl rfl Try.underlying4 (by intro t ht; rw [Try.params5] at ht; simp at ht; subst ht; exact ⟨by kernel_rfl, of_decide_eq_true (by kernel_rfl)⟩) rfl rfl rfl hW' hb⟩

theorem buildAll_holds : Rows.FnBuildAllSaid :=
  OpenClaim.holds_of_wide 5 Try.f5 rfl rfl rfl rfl rfl rfl rfl ⟨rfl, rfl, rfl, rfl, rfl⟩ rfl rfl rfl rfl rfl (by kernel_rfl) Try.func5 (by kernel_rfl)
    (of_decide_eq_true (by kernel_rfl)) (by unfold Func.isWrapper; first | (rw [if_pos (by decide +kernel)]; kernel_rfl) | (rw [if_neg (by decide +kernel)]; exact ⟨rfl, rfl⟩))
    (fun os started H enc _ => buildAll_lifted os started H enc)
#print axioms buildAll_holds
end Go.Proofs.Ytohogojphnlhpaa
