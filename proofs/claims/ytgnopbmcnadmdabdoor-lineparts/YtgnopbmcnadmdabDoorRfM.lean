/- The contract of the document's SameLines, at lists that are the same. -/
import Derived.Test.YtgnopbmcnadmdabDoorRfL
namespace Go.Proofs.YtgnopbmcnadmdabDoor
open Go.RowKit
set_option linter.unusedVariables false
set_option linter.unusedSimpArgs false

def Alike (nums : Bool) (x y : List Tx.Ln) : Prop := x.length = y.length ∧ ∀ (i : Nat) (a b : Tx.Ln), x[i]? = some a → y[i]? = some b → (nums = true → a.number = b.number) ∧ a.inner = b.inner ∧ a.fields = b.fields
theorem alike_refl (nums : Bool) (x : List Tx.Ln) : Alike nums x x := ⟨rfl, fun i a b ha hb => by rw [ha] at hb; simp at hb; subst hb; exact ⟨fun _ => rfl, rfl, rfl⟩⟩

set_option maxRecDepth 100000 in
set_option maxHeartbeats 4000000 in
theorem sameLines_yes (u v : Value) (x y : List Tx.Ln) (nums : Bool) (w : World) (hu : RdLines w u x) (hv : RdLines w v y) (h : Alike nums x y) (hx : x.length ≤ 100000) (hf : ∀ (i : Nat) (a : Tx.Ln), x[i]? = some a → a.fields.length ≤ 100000) :
    Calls Tryd.prog 9 #[u, v, .bool nums] w fun e w' => e = .returned (.bool true) ∧ Below w.heap.size w w' := by
  obtain ⟨ua, ucap, rfl, hu⟩ := hu
  obtain ⟨va, vcap, rfl, hv⟩ := hv
  obtain ⟨hl, hA⟩ := h
  have hl' : ((x.length : Int) != (y.length : Int)) = false := by rw [hl]; simp
  have HL := hid hl
  clear hl
  go_enter Tryd.func9, Tryd.ntmps9
  go_wp2_with fail
  go_loopw [7] (fun a wr => ∃ i : Nat, i ≤ x.length ∧ a = .int .i64 i ∧ Below w.heap.size w wr) (fun a _ => x.length - (intOf a).toNat)
  case atStart => exact ⟨0, by omega, rfl, Below.refl _ _⟩
  case round =>
    obtain ⟨i, h1, rfl, hb⟩ := hrel
    by_cases hi : i < x.length
    · obtain ⟨a, ha⟩ : ∃ a, x[i]? = some a := ⟨_, List.getElem?_eq_getElem hi⟩
      obtain ⟨b, hbb⟩ : ∃ b, y[i]? = some b := ⟨_, List.getElem?_eq_getElem (by have := HL.out; omega)⟩
      obtain ⟨ub, uo, rfl, ulen, uc⟩ := hu (by intro q; subst q; simp at hi)
      obtain ⟨vb, vo, rfl, vlen, vc⟩ := hv (by intro q; subst q; simp at hbb)
      obtain ⟨u0, u1, fa, u2, ru⟩ := uc i a ha
      obtain ⟨v0, v1, fb, v2, rv⟩ := vc i b hbb
      obtain ⟨e1, e2, e3⟩ := hA i a b ha hbb
      have hfl := hf i a ha
      have u0' := (hb.cell (p := ⟨ub, uo + i * 3, none⟩) ulen).trans u0
      have u1' := (hb.cell (p := ⟨ub, uo + i * 3 + 1, none⟩) ulen).trans u1
      have u2' := (hb.cell (p := ⟨ub, uo + i * 3 + 2, none⟩) ulen).trans u2
      have v0' := (hb.cell (p := ⟨vb, vo + i * 3, none⟩) vlen).trans v0
      have v1' := (hb.cell (p := ⟨vb, vo + i * 3 + 1, none⟩) vlen).trans v1
      have v2' := (hb.cell (p := ⟨vb, vo + i * 3 + 2, none⟩) vlen).trans v2
      obtain ⟨faa, facap, rfl, ru⟩ := ru
      obtain ⟨fba, fbcap, rfl, rv⟩ := rv
      obtain ⟨an, ai, af⟩ := a
      obtain ⟨bn, bi, bf⟩ := b
      simp only at *
      subst e2 e3
      have hyl : i < y.length := by have := HL.out; omega
      have HU2 := hid u2
      have HV2 := hid v2
      clear u0 u1 u2 v0 v1 v2 uc vc ha hbb hA hf hu hv
      cases nums
      · clear e1
        go_wp2_with fail
        go_quiet (fail)
        go_wp2_with fail
        go_loopw [8] (fun c wr' => ∃ k : Nat, k ≤ af.length ∧ c = .int .i64 k ∧ Below w.heap.size w wr') (fun c _ => af.length - (intOf c).toNat)
        case atStart => exact ⟨0, by omega, rfl, below_drewN hb _⟩
        case round =>
          clear u0' u1' u2' v0' v1' v2' hb
          obtain ⟨k, k1, rfl, hb⟩ := hrel
          have u2' := (hb.cell (p := ⟨ub, uo + i * 3 + 2, none⟩) ulen).trans HU2.out
          have v2' := (hb.cell (p := ⟨vb, vo + i * 3 + 2, none⟩) vlen).trans HV2.out
          by_cases hk : k < af.length
          · obtain ⟨t, ht⟩ : ∃ t, af[k]? = some t := ⟨_, List.getElem?_eq_getElem hk⟩
            obtain ⟨pb, po, rfl, pl, pc⟩ := ru (by intro q; subst q; simp at hk)
            obtain ⟨qb, qo, rfl, ql, qc⟩ := rv (by intro q; subst q; simp at hk)
            have p1 := (hb.cell (p := ⟨pb, po + k, none⟩) pl).trans (pc k t ht)
            have q1 := (hb.cell (p := ⟨qb, qo + k, none⟩) ql).trans (qc k t ht)
            clear pc qc ht ru rv
            go_wp2_with fail
            go_quiet (fail)
            go_wp2
            go_roundw
            case rel => exact ⟨k + 1, by omega, by go_num, below_drewN hb _⟩
            case measure => simp [intOf]; omega
          · clear ru rv
            go_wp2
            go_roundw
            case rel => exact ⟨i + 1, by omega, by go_num, hb⟩
            case measure => simp [intOf]; omega
      · have e1' := e1 rfl
        clear e1
        subst e1'
        go_wp2_with fail
        go_quiet (fail)
        go_wp2_with fail
        go_loopw [8] (fun c wr' => ∃ k : Nat, k ≤ af.length ∧ c = .int .i64 k ∧ Below w.heap.size w wr') (fun c _ => af.length - (intOf c).toNat)
        case atStart => exact ⟨0, by omega, rfl, below_drewN hb _⟩
        case round =>
          clear u0' u1' u2' v0' v1' v2' hb
          obtain ⟨k, k1, rfl, hb⟩ := hrel
          have u2' := (hb.cell (p := ⟨ub, uo + i * 3 + 2, none⟩) ulen).trans HU2.out
          have v2' := (hb.cell (p := ⟨vb, vo + i * 3 + 2, none⟩) vlen).trans HV2.out
          by_cases hk : k < af.length
          · obtain ⟨t, ht⟩ : ∃ t, af[k]? = some t := ⟨_, List.getElem?_eq_getElem hk⟩
            obtain ⟨pb, po, rfl, pl, pc⟩ := ru (by intro q; subst q; simp at hk)
            obtain ⟨qb, qo, rfl, ql, qc⟩ := rv (by intro q; subst q; simp at hk)
            have p1 := (hb.cell (p := ⟨pb, po + k, none⟩) pl).trans (pc k t ht)
            have q1 := (hb.cell (p := ⟨qb, qo + k, none⟩) ql).trans (qc k t ht)
            clear pc qc ht ru rv
            go_wp2_with fail
            go_quiet (fail)
            go_wp2
            go_roundw
            case rel => exact ⟨k + 1, by omega, by go_num, below_drewN hb _⟩
            case measure => simp [intOf]; omega
          · clear ru rv
            go_wp2
            go_roundw
            case rel => exact ⟨i + 1, by omega, by go_num, hb⟩
            case measure => simp [intOf]; omega
    · go_wp2
      go_ret
      exact ⟨rfl, hb⟩
end Go.Proofs.YtgnopbmcnadmdabDoor
