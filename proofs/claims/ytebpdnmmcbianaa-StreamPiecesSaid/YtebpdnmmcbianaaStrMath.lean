/-
  A splitter by definition: byte by byte; what a piece does; pieces joined. They speak of no program.
-/
import Derived.Test.YtebpdnmmcbianaaMsgMath
set_option linter.unusedVariables false
set_option linter.unusedSimpArgs false
namespace Go.Proofs.Ytebpdnmmcbianaa

/-- A splitter: the bytes of the frame that are present, and why it is bad (0: it is not). -/
structure St where
  h : List UInt8
  bad : Nat
/-- Where the frame ends. -/
def endOf (h : List UInt8) : Nat := if h.length < 2 then 2 else 2 + beV (h.take 2)
/-- What these bytes of a frame are: kept, a message, or a bad frame. -/
def settle (h : List UInt8) : St × List MsgA :=
  if 4098 < endOf h then (⟨[], 3⟩, []) else if h.length < endOf h then (⟨h, 0⟩, []) else
    match dec ((h.take (endOf h)).drop 2) with | .ok m => (⟨[], 0⟩, [m]) | .error e => (⟨[], e⟩, [])
def stepS (st : St) (b : UInt8) : St × List MsgA := if st.bad ≠ 0 then (st, []) else settle (st.h ++ [b])
def runS : St → List UInt8 → St × List MsgA
  | st, [] => (st, [])
  | st, b :: l => ((runS (stepS st b).1 l).1, (stepS st b).2 ++ (runS (stepS st b).1 l).2)
theorem runS_append (st : St) (l r : List UInt8) : runS st (l ++ r) = ((runS (runS st l).1 r).1, (runS st l).2 ++ (runS (runS st l).1 r).2) := by
  induction l generalizing st with
  | nil => simp [runS]
  | cons b l ih => simp only [List.cons_append, runS, ih, List.append_assoc]
theorem runS_bad (st : St) (l : List UInt8) (h : st.bad ≠ 0) : runS st l = (st, []) := by
  induction l generalizing st with
  | nil => rfl
  | cons b l ih => simp [runS, stepS, h, ih st h]
theorem endOf_two (h : List UInt8) (b : UInt8) (h2 : 2 ≤ h.length) : endOf (h ++ [b]) = endOf h := by
  unfold endOf
  rw [if_neg (by simp; omega), if_neg (by omega), List.take_append_of_le_length h2]
/-- A piece that goes no further than the frame's end. -/
theorem runS_piece (l : List UInt8) : ∀ (h : List UInt8), l ≠ [] → h.length + l.length ≤ endOf h → endOf h ≤ 4098 → runS ⟨h, 0⟩ l = settle (h ++ l) := by
  induction l with
  | nil => intro h h0; exact absurd rfl h0
  | cons b l ih =>
    intro h _ hl he
    by_cases hn : l = []
    · subst hn
      simp [runS, stepS]
    · have hl1 : 1 ≤ l.length := by cases l with
        | nil => exact absurd rfl hn
        | cons _ _ => simp
      simp only [List.length_cons] at hl
      have e1 : endOf (h ++ [b]) = endOf h := by
        by_cases h2 : 2 ≤ h.length
        · exact endOf_two h b h2
        · have h3 : endOf h = 2 := by unfold endOf; rw [if_pos (by omega)]
          rw [h3] at hl
          unfold endOf
          rw [if_pos (by simp; omega), if_pos (by omega)]
      have hs : settle (h ++ [b]) = (⟨h ++ [b], 0⟩, []) := by
        unfold settle
        rw [e1, if_neg (by omega), if_pos (by simp; omega)]
      have := ih (h ++ [b]) hn (by rw [e1]; simp; omega) (by rw [e1]; exact he)
      simp only [runS, stepS]
      rw [if_neg (by simp), hs]
      simp only [List.nil_append]
      rw [this]
      simp
/-- The frame of a message. -/
def frameL (m : MsgA) : List UInt8 := beL 2 (encM m).length ++ encM m
theorem endOf_frame (m : MsgA) (hl : (encM m).length ≤ 4096) (r : List UInt8) : endOf (beL 2 (encM m).length ++ r) = 2 + (encM m).length := by
  unfold endOf
  rw [if_neg (by simp [beL_length]), List.take_append_of_le_length (by simp [beL_length]), List.take_of_length_le (by simp [beL_length]), beV_beL]
  have : (256 : Nat) ^ 2 = 65536 := by decide
  omega
theorem run_frame {m : MsgA} (h : May m) (hw : Wf m) (hl : (encM m).length ≤ 4096) : runS ⟨[], 0⟩ (frameL m) = (⟨[], 0⟩, [m]) := by
  have hb2 : (beL 2 (encM m).length).length = 2 := beL_length _ _
  have h1 := runS_piece (beL 2 (encM m).length) [] (by intro e; rw [e] at hb2; simp at hb2) (by simp [endOf, hb2]) (by simp [endOf])
  have hp := enc_pos m
  have he := endOf_frame m hl []
  rw [List.append_nil] at he
  have hs1 : settle (beL 2 (encM m).length) = (⟨beL 2 (encM m).length, 0⟩, []) := by
    unfold settle
    rw [he, if_neg (by omega), if_pos (by rw [hb2]; omega)]
  rw [List.nil_append, hs1] at h1
  have h2 := runS_piece (encM m) (beL 2 (encM m).length) (by intro e; rw [e] at hp; simp at hp) (by rw [he, hb2]; omega) (by rw [he]; omega)
  have hs2 : settle (beL 2 (encM m).length ++ encM m) = (⟨[], 0⟩, [m]) := by
    unfold settle
    rw [endOf_frame m hl, if_neg (by omega), if_neg (by simp [hb2])]
    have : ((beL 2 (encM m).length ++ encM m).take (2 + (encM m).length)).drop 2 = encM m := by
      rw [List.take_of_length_le (by simp [hb2]), List.drop_append_of_le_length (by omega), List.drop_of_length_le (by omega)]
      rfl
    rw [this, dec_enc h hw hl]
  rw [frameL, runS_append, h1]
  simp only
  rw [h2, hs2]
  simp
end Go.Proofs.Ytebpdnmmcbianaa
