/- strings.ContainsAny at a short text of text bytes: joinField's premise is paid. -/
import Derived.Test.YtgnopbmcnadmdabDoorLnY
import Derived.Test.YtgnopbmcnadmdabDoorShB
import Derived.Test.YtgnopbmcnadmdabDoorShC
namespace Go.Proofs.YtgnopbmcnadmdabDoor
open Go.RowKit
set_option linter.unusedVariables false
set_option linter.unusedSimpArgs false

theorem jok_ascii {c : UInt8} (h : Tx.jok c = true) : c.toNat < 128 := by
  simp only [Tx.jok, Tx.txt, Bool.and_eq_true, Bool.or_eq_true, decide_eq_true_eq, beq_iff_eq] at h
  rcases h.1 with h | h
  · omega
  · subst h; decide
theorem marks_eq : ∀ (l : Tx.Bs), Lib.containsAny l [32, 9, 35] = Tx.marks l
  | [] => by decide
  | c :: r => by
    have ih := marks_eq r
    have hc : ([32, 9, 35] : List UInt8).contains c = (Tx.gap c || c == 35) := by
      simp [Tx.gap, List.contains_eq_mem, Bool.or_assoc, Bool.beq_eq_decide_eq]
    have ge := Lib.indexAny_ge [32, 9, 35] r
    unfold Lib.containsAny at ih ⊢
    unfold Lib.indexAny
    simp only [Tx.marks, List.any_cons] at ih ⊢
    rw [← ih, ← hc]
    cases ([32, 9, 35] : List UInt8).contains c
    · simp only [Bool.false_eq_true, if_false, Bool.false_or]
      by_cases e : Lib.indexAny r [32, 9, 35] = -1
      · simp [e]
      · simp only [beq_iff_eq, e, if_false]
        congr 1
        apply propext
        omega
    · simp
theorem cany : CAny := by
  intro s w hs ha
  have hj : ∀ (j : Nat) b, s.data.toList[j]? = some b → b.toNat < 128 := fun j b h => jok_ascii (List.all_eq_true.1 ha b (List.mem_of_getElem? h))
  refine (Tryd.strings_ContainsAny_laid s ⟨#[32, 9, 35]⟩ w (by omega) (by decide) hj ?_).mono ?_
  · intro j b h
    have : b ∈ [(32 : UInt8), 9, 35] := List.mem_of_getElem? h
    simp at this
    rcases this with rfl | rfl | rfl <;> decide
  · rintro e w' ⟨rfl, hb⟩
    exact ⟨by rw [← marks_eq], hb⟩
theorem joinField_is (n : Int) (s : ByteArray) (w : World) (hx : (s.size : Int) ≤ 9223372036854775807) :
    Calls Tryd.prog 37 #[.int .i64 n, .string s] w fun e w' => Below w.heap.size w w' ∧
      ((Tx.jfErr s.data.toList = 0 ∧ e = .returned (strV (Tx.jfText s.data.toList))) ∨
       (Tx.jfErr s.data.toList ≠ 0 ∧ e = .panicked [{ v := faultV n (Tx.jfErr s.data.toList), recovered := false }])) :=
  joinField_any (hid cany) n s w hx
end Go.Proofs.YtgnopbmcnadmdabDoor
