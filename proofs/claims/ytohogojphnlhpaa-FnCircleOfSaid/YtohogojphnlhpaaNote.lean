/- the closures of impl.TaskFetches: what is fetched is noted -/
import Derived.Test.YtohogojphnlhpaaRow
import Derived.Test.YtohogojphnlhpaaFrom
namespace Go.Proofs.Ytohogojphnlhpaa
open Go.RowKit

theorem IntsAt.fr {w w' : World} {S D : Nat → Prop} {l : List Int} {a : Option Addr} {c : Nat} (h : IntsAt w S l a c) (hf : Fr D w w') (hS : ∀ b, S b → ¬ D b) : IntsAt w' S l a c :=
  h.keep (fun _ h => h) (fun b hb hl => hf.2.2.2.2 b hl (hS b hb))

theorem Fr.weaken {D D' : Nat → Prop} {w w' : World} (h : Fr D w w') (hd : ∀ b, D b → D' b) : Fr D' w w' := ⟨h.1, h.2.1, h.2.2.1, h.2.2.2.1, fun b hb hn => h.2.2.2.2 b hb (fun hx => hn (hd b hx))⟩

end Go.Proofs.Ytohogojphnlhpaa
