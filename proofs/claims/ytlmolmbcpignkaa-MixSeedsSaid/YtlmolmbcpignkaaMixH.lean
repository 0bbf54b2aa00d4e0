/-
  The contract of mix.Hash.
-/
import Derived.Test.YtlmolmbcpignkaaMixA
namespace Go.Proofs.Ytlmolmbcpignkaa
open Go.RowKit

theorem seed_bits (a : Int) : bits .xor .u64 (IntKind.u64.wrap a) 11400714819323198485 = (seedN a : Int) := by
  rw [IntKind.wrap_u64]
  have k := u64_xor_nat (a % 18446744073709551616).toNat 11400714819323198485 (by omega) (by omega)
  rw [Int.toNat_of_nonneg (by omega)] at k
  exact k

set_option maxRecDepth 100000 in
theorem hash_any (a : Int) (s : ByteArray) (hs : s.size ≤ maxLen) (w : World) :
    Calls Try.prog 11 #[.int .i64 a, .string s] w fun e w' => e = .returned (.int .u64 (hashN a s.data.toList : Int)) ∧ Below w.heap.size w w' := by
  have hs2 := hs
  unfold maxLen at hs2
  have H1 := Lib.hid (seed_bits a)
  have hm := mixL_lt (seedN_lt a) s.data.toList
  obtain ⟨m, hmm⟩ : ∃ m, m = mixL (seedN a) s.data.toList := ⟨_, rfl⟩
  rw [← hmm] at hm
  have HL := Lib.hid (Lib.size_eq s)
  have hz : (s.size : Int) % 18446744073709551616 = (s.size : Int) := by omega
  have H2 := Lib.hid (u64_xor_nat m s.size hm (by omega))
  have H3 := Lib.hid (wrap_mul (m ^^^ s.size) 11400714819323198485 11400714819323198485 rfl)
  have HM := Lib.hid hmm
  have HF := Lib.hid (show foldN 32 (mulN (m ^^^ s.size) 11400714819323198485) = hashN a s.data.toList by rw [hmm, Lib.size_eq s]; unfold hashN; exact Eq.refl _)
  clear hmm
  have kc := fun W => run_bytes_of_string (P := Try.prog) W 9 35 5 s Try.underlying9 Try.underlying35 Try.underlying5
  go_enter Try.func11, Try.ntmps11
  go_wp2_with fail
  clear kc
  rw [H1.out]
  refine (run_any _ _ _ s.data.toList (seedN a) _ (Sl8.drew (Sl8.made w w s _ _ hs)) (seedN_lt a)).mono ?_
  rintro e w1 ⟨he, hw⟩
  rw [← HM.out] at he
  subst he
  have hb : Below w.heap.size w w1 := by rw [← hw]; exact ((Below.refl _ _).alloc (Nat.le_refl _) _).drew
  clear hw
  go_wp2_with fail
  rw [H2.out, H3.out]
  refine (fold32_any _ (mulN_lt _ _) _).mono ?_
  rintro e w2 ⟨he, rfl⟩
  rw [HF.out] at he
  subst he
  go_wp2_with fail
  go_ret
  exact ⟨rfl, hb⟩

end Go.Proofs.Ytlmolmbcpignkaa
