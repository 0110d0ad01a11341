/- A region that draws its order, whose operations each yield one value in every world of a class: one walk in the text's order; behind a forced beginning too. -/
import Derived.WalkKit
import Derived.Deep.QuietTactic
import Derived.BigQuiet
import Derived.Deep.RegionWith
namespace Go.Proofs.YtcbfhlnnfnpkdaaGreatDoor
open Go.RowKit
set_option linter.unusedVariables false
set_option linter.unusedSimpArgs false

/-- A world of the class S. -/
structure InS (S : World → Prop) where
  w : World
  ok : S w
theorem region_in {P : Program} {id : Nat} {Q : Exit → Act → World → Prop} {a : Act} {w : World} {l : List Oper} (S : World → Prop) (hm : P.follows .mixedOrders = true) (hB : Region.lexB .any l.toArray = true) (hS : S w.drew)
    (h : wpQuiet P l.toArray (fun w' => ∃ p : InS S, w' = p.w) (fun a' => ∀ w', (∃ p : InS S, w' = p.w) → Q .normal a' w') l a) : (Code.region id l.toArray true).wp P Q a w :=
  wp_region_quiet (C := fun w' => ∃ p : InS S, w' = p.w) hm hB ⟨⟨_, hS⟩, rfl⟩ (by simpa using h)
theorem any_in {P : Program} {Q : Exit → Act → World → Prop} {l l2 : List Oper} {fuel : Nat} {listed : Array Bool} {a : Act} {w : World} (S : World → Prop) (k : Nat) (hs : Region.noSelect l.toArray = true) (hl : l.drop k = l2) (hf : fuel = l2.length)
    (hB : Region.lexFrom .any l.toArray l2.length k listed = true) (hS : S w)
    (h : wpQuiet P l.toArray (fun w' => ∃ p : InS S, w' = p.w) (fun a' => ∀ w', (∃ p : InS S, w' = p.w) → Q .normal a' w') l2 a) : wpAny P .any l.toArray Q fuel listed a w := by
  subst hf
  exact wpAny_of_quiet (C := fun w' => ∃ p : InS S, w' = p.w) (Q := fun a' => ∀ w', (∃ p : InS S, w' = p.w) → Q .normal a' w') (fun _ w' hw' h => h w' hw') _ _ _ _ ⟨⟨_, hS⟩, rfl⟩
    (wpAnyQ_lex hs l2 k listed a (fun j => by rw [← hl]; simp [List.getElem?_drop]) hB h)
theorem call_in {P : Program} {f : FuncId} {args : Array Value} {S : World → Prop} {p : InS S} {v : Value} (h : ∀ w, S w → Calls P f args w fun e w' => e = .returned v ∧ S w') :
    Calls P f args p.w fun e w'' => e = .returned v ∧ ∃ q : InS S, w'' = q.w :=
  (h p.w p.ok).mono fun _ _ ⟨he, hs⟩ => ⟨he, ⟨_, hs⟩, rfl⟩
end Go.Proofs.YtcbfhlnnfnpkdaaGreatDoor
