/- The contract of the document's Bytes. -/
import Derived.Test.YtombhnjmelidcaaTbM
import Derived.Test.YtombhnjmelidcaaWr
namespace Go.Proofs.Ytombhnjmelidcaa
open Go.RowKit
set_option linter.unusedVariables false
set_option linter.unusedSimpArgs false

theorem byte_nat (n : Int) (h : 0 ≤ n) : ((Wr.byteOf n).toNat : Int) = n % 256 := by
  unfold Wr.byteOf
  have h1 : (n % 256).toNat < 256 := by omega
  rw [UInt8.toNat_ofNat']
  rw [Nat.mod_eq_of_lt (by simpa using h1)]
  omega

set_option maxRecDepth 100000 in
set_option maxHeartbeats 2000000 in
theorem bytes_any (n : Int) (k : Nat) (w : World) (h : 0 ≤ n) (h2 : n ≤ 1000000000000) (hk : k ≤ 8) :
    Calls Try.prog 34 #[.int .i64 n, .int .i64 k] w fun e w' => e = .returned (strV (Wr.num k n)) ∧ Below w.heap.size w w' := by
  obtain ⟨R, hR⟩ : ∃ R, Wr.num k n = R := ⟨_, rfl⟩
  rw [hR]
  have HR : Hid (R = [] ++ Wr.num (k - 0) n) := by show _ = _; rw [← hR]; simp
  clear hR
  go_enter Try.func34, Try.ntmps34
  go_wp2_with fail
  go_loopw [0, 5, 6] (fun nv sv iv wr => ∃ (i : Nat) (acc : Tx.Bs) (m : Int), i ≤ k ∧ nv = .int .i64 m ∧ sv = strV acc ∧ iv = .int .i64 i ∧ 0 ≤ m ∧ m ≤ 1000000000000 ∧ acc.length = i ∧ Hid (R = acc ++ Wr.num (k - i) m) ∧ Hid (Below w.heap.size w wr)) (fun _ _ iv _ => k - (intOf iv).toNat)
  case atStart => exact ⟨0, [], n, by omega, rfl, rfl, rfl, h, h2, rfl, HR, Below.refl _ _⟩
  case round =>
    clear HR h h2
    obtain ⟨i, acc, m, h1, rfl, rfl, rfl, m1, m2, ha, HR, B0⟩ := hrel
    have HAL := hid ha
    clear ha
    by_cases hlt : i < k
    · have ht : m.tmod 256 = m % 256 := Int.tmod_eq_emod_of_nonneg m1
      have hd : m.tdiv 256 = m / 256 := Int.tdiv_eq_ediv_of_nonneg m1
      have hb := byte_nat m m1
      have hcv : (convert 53 9 (.slice (some ⟨wr.heap.size, 0, none⟩) 1 1)).run Try.prog (wr.alloc (.cells #[.int .u8 (m % 256)] 5)) = .ok (strV [Wr.byteOf m]) (wr.alloc (.cells #[.int .u8 (m % 256)] 5)) :=
        run_convert_bytes_back _ _ _ _ _ _ [Wr.byteOf m] Try.underlying53 Try.underlying5 Try.underlying9 (fun j hj => by
          have : j = 0 := by simp at hj; exact hj
          subst this
          simp [Addr.add, hb])
      clear hb ht hd
      have ht : m.tmod 256 = m % 256 := Int.tmod_eq_emod_of_nonneg m1
      have hd : m.tdiv 256 = m / 256 := Int.tdiv_eq_ediv_of_nonneg m1
      have hal : acc.length ≤ 8 := by have := HAL.out; omega
      go_wp2
      refine ⟨⟨i + 1, acc ++ [Wr.byteOf m], m / 256, by omega, rfl, ?_, by go_num, by omega, by omega, by simp; exact HAL.out, ?_, ?_⟩, by simp [intOf]; omega⟩
      · show Value.string _ = Value.string _
        exact congrArg Value.string (bytes_ext (by simp))
      · show R = _
        rw [HR.out, show k - i = (k - (i + 1)) + 1 by omega]
        simp [Wr.num]
      · exact B0.out.alloc B0.out.size _
    · have HR2 : Hid (R = acc) := by show _ = _; rw [HR.out, show k - i = 0 by omega]; simp [Wr.num]
      go_wp2
      go_ret
      exact ⟨by rw [HR2.out]; rfl, B0.out⟩
end Go.Proofs.Ytombhnjmelidcaa
