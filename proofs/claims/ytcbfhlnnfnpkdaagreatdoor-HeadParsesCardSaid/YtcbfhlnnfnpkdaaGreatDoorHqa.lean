/- Heads (layer 22), plain: a head's reader, octet by octet. -/
import Derived.Test.YtcbfhlnnfnpkdaaGreatDoorHea
import Derived.Test.YtcbfhlnnfnpkdaaGreatDoorLna
namespace Go.Proofs.YtcbfhlnnfnpkdaaGreatDoor
open Go.RowKit
set_option linter.unusedVariables false
set_option linter.unusedSimpArgs false

/-- What a reader of a head keeps. -/
structure PSt where
  st : LS
  got : List ByteArray
  ended : Bool
  hd : HdD
  err : Int
def ps0 : PSt := ⟨ls0, [], false, hd0, 0⟩
/-- A line taken. -/
def takeP (kind lf fold : Int) (P : PSt) (line : ByteArray) : PSt :=
  if line.size ≠ 0 then { P with got := P.got ++ [line] }
  else if P.got ≠ [] ∨ kind = 2 then { P with ended := true, hd := (prH kind lf fold P.got).1, err := (prH kind lf fold P.got).2 }
  else P
def lsCut (st : LS) : LS := { st with text := [], whole := false }
def baL (l : List UInt8) : ByteArray := ⟨l.toArray⟩
/-- One octet more, and whether it was used. -/
def pstep (most : Nat) (kind lf fold : Int) (P : PSt) (c : UInt8) : PSt × Bool :=
  if P.ended = true then (P, false)
  else if (seeS most P.st c).1.whole = true then (takeP kind lf fold { P with st := lsCut (seeS most P.st c).1 } (baL (seeS most P.st c).1.text), (seeS most P.st c).2)
  else ({ P with st := (seeS most P.st c).1 }, (seeS most P.st c).2)
/-- Octets one behind the other, as long as they are used. -/
def runP (most : Nat) (kind lf fold : Int) : PSt → List UInt8 → Nat × PSt
  | P, [] => (0, P)
  | P, c :: l => if (pstep most kind lf fold P c).2 = true then ((runP most kind lf fold (pstep most kind lf fold P c).1 l).1 + 1, (runP most kind lf fold (pstep most kind lf fold P c).1 l).2) else (0, (pstep most kind lf fold P c).1)
/-- What Feed tells is wrong. -/
def errP (P : PSt) : Int := if P.ended = true then P.err else P.st.err
theorem seeS_stop {most : Nat} {st : LS} {c : UInt8} (h : st.whole = true) : seeS most st c = (st, false) := by
  unfold seeS
  rw [if_pos (.inl h)]
theorem seeS_text {most : Nat} {st : LS} {c : UInt8} (hw : st.whole = false) (h : (seeS most st c).1.whole = true) : (seeS most st c).2 = true ∧ (seeS most st c).1.err = 0 := by
  unfold seeS at *
  by_cases h0 : st.whole = true ∨ st.err ≠ 0
  · rw [if_pos h0] at h; rw [hw] at h; cases h
  rw [if_neg h0] at h ⊢
  have he : st.err = 0 := Classical.byContradiction fun e => h0 (.inr e)
  by_cases h1 : st.spent = most
  · rw [if_pos h1] at h; dsimp only at h; rw [hw] at h; cases h
  rw [if_neg h1] at h ⊢
  by_cases h2 : st.cr ≠ (c == 10)
  · rw [if_pos h2] at h; dsimp only at h; rw [hw] at h; cases h
  rw [if_neg h2] at h ⊢
  by_cases h3 : st.cr = true
  · rw [if_pos h3]; exact ⟨rfl, he⟩
  rw [if_neg h3] at h ⊢
  by_cases h4 : c = 13
  · rw [if_pos h4] at h; dsimp only at h; rw [hw] at h; cases h
  · rw [if_neg h4] at h; dsimp only at h; rw [hw] at h; cases h
/-- A line of octets, as the reader goes: up to its end, or up to the octets' end. -/
theorem run_line (most : Nat) (kind lf fold : Int) : ∀ (l : List UInt8) (P : PSt), P.ended = false → P.st.whole = false →
    ((runS most P.st l).2.whole = false ∧ runP most kind lf fold P l = ((runS most P.st l).1, { P with st := (runS most P.st l).2 })) ∨
    ((runS most P.st l).2.whole = true ∧ (runS most P.st l).2.err = 0 ∧ 1 ≤ (runS most P.st l).1 ∧ (runS most P.st l).1 ≤ l.length ∧
      runP most kind lf fold P l = ((runS most P.st l).1 + (runP most kind lf fold (takeP kind lf fold { P with st := lsCut (runS most P.st l).2 } (baL (runS most P.st l).2.text)) (l.drop (runS most P.st l).1)).1,
        (runP most kind lf fold (takeP kind lf fold { P with st := lsCut (runS most P.st l).2 } (baL (runS most P.st l).2.text)) (l.drop (runS most P.st l).1)).2))
  | [], P, he, hw => .inl ⟨hw, rfl⟩
  | c :: l, P, he, hw => by
    have hne : ¬ P.ended = true := by rw [he]; decide
    by_cases hwh : (seeS most P.st c).1.whole = true
    · obtain ⟨hu, her⟩ := seeS_text hw hwh
      have hps : pstep most kind lf fold P c = (takeP kind lf fold { P with st := lsCut (seeS most P.st c).1 } (baL (seeS most P.st c).1.text), true) := by
        unfold pstep; rw [if_neg hne, if_pos hwh, hu]
      have hrs : runS most P.st (c :: l) = (1, (seeS most P.st c).1) := by
        rw [runS, if_pos hu]
        have hst : runS most (seeS most P.st c).1 l = (0, (seeS most P.st c).1) := by
          cases l with
          | nil => rfl
          | cons d l =>
            have hs : seeS most (seeS most P.st c).1 d = ((seeS most P.st c).1, false) := seeS_stop hwh
            rw [runS, hs]; rfl
        rw [hst]
      refine .inr ?_
      rw [hrs]
      refine ⟨hwh, her, Nat.le_refl _, by simp, ?_⟩
      rw [runP, hps]
      show (if true = true then _ else _) = _
      rw [if_pos rfl, List.drop_succ_cons, List.drop_zero, Nat.add_comm]
    · have hwf : (seeS most P.st c).1.whole = false := by simpa using hwh
      have hps : pstep most kind lf fold P c = ({ P with st := (seeS most P.st c).1 }, (seeS most P.st c).2) := by
        unfold pstep; rw [if_neg hne, if_neg hwh]
      by_cases hu : (seeS most P.st c).2 = true
      · have ih := run_line most kind lf fold l { P with st := (seeS most P.st c).1 } he hwf
        have hrs : runS most P.st (c :: l) = ((runS most (seeS most P.st c).1 l).1 + 1, (runS most (seeS most P.st c).1 l).2) := by rw [runS, if_pos hu]
        have hrp : runP most kind lf fold P (c :: l) = ((runP most kind lf fold { P with st := (seeS most P.st c).1 } l).1 + 1, (runP most kind lf fold { P with st := (seeS most P.st c).1 } l).2) := by
          rw [runP, hps]
          show (if (seeS most P.st c).2 = true then _ else _) = _
          rw [if_pos hu]
        rw [hrs, hrp]
        rcases ih with ⟨h1, h2⟩ | ⟨h1, h2, h3, h4, h5⟩
        · exact .inl ⟨h1, by rw [h2]⟩
        · refine .inr ⟨h1, h2, by simp, by simp; exact h4, ?_⟩
          rw [h5]
          simp only [List.drop_succ_cons]
          refine Prod.ext ?_ rfl
          show _ + 1 = _
          omega
      · have huf : (seeS most P.st c).2 = false := by simpa using hu
        have hrs : runS most P.st (c :: l) = (0, (seeS most P.st c).1) := by rw [runS, if_neg hu]
        have hrp : runP most kind lf fold P (c :: l) = (0, { P with st := (seeS most P.st c).1 }) := by
          rw [runP, hps]
          show (if (seeS most P.st c).2 = true then _ else _) = _
          rw [if_neg hu]
        rw [hrs, hrp]
        exact .inl ⟨hwf, rfl⟩
theorem runP_ended {most : Nat} {kind lf fold : Int} {P : PSt} (h : P.ended = true) (l : List UInt8) : runP most kind lf fold P l = (0, P) := by
  cases l with
  | nil => rfl
  | cons c l =>
    have hps : pstep most kind lf fold P c = (P, false) := by unfold pstep; rw [if_pos h]
    rw [runP, hps]
    rfl
end Go.Proofs.YtcbfhlnnfnpkdaaGreatDoor
