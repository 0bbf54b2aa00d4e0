/-
  Contracts of the reference's read, Number, ReadHex and Seconds (layer 2), for every text.
-/
import Derived.Test.YtcmppmbieebkpaaDoorDecV
import Derived.Test.YtcmppmbieebkpaaDoorDecN
namespace Go.Proofs.YtcmppmbieebkpaaDoor
open Go.RowKit

/-- The value of the longest texts. -/
theorem val_fitTen (s : ByteArray) (h : s.size ≤ 18) (k : Nat) (hk : k < s.size) (ha : allB (isD 10) (s.data.toList.take k) = true) : 0 ≤ valV 10 (s.data.toList.take k) ∧ valV 10 (s.data.toList.take k) * 10 + 16 ≤ 9223372036854775807 := by
  have := (num10_fit s h).out k hk ha
  have hl : (s.data.toList.take k).length = k := by rw [List.length_take, ← Lib.size_eq]; omega
  have hp : 10 ^ k ≤ 10 ^ 18 := Nat.pow_le_pow_right (by omega) (by omega)
  have hq : 10 ^ 18 ≤ 9223372036854775807 := by decide +kernel
  have h2 : cutV 10 9223372036854775807 (s.data.toList.take k) = valV 10 (s.data.toList.take k) := cutV_val 10 9223372036854775807 _ (by omega) ha (by rw [hl]; omega)
  rwa [h2] at this
theorem val_fitHex (s : ByteArray) (h : s.size ≤ 15) (k : Nat) (hk : k < s.size) (ha : allB (isD 16) (s.data.toList.take k) = true) : 0 ≤ valV 16 (s.data.toList.take k) ∧ valV 16 (s.data.toList.take k) * 16 + 16 ≤ 9223372036854775807 := by
  have := (num16_fit s h).out k hk ha
  have hl : (s.data.toList.take k).length = k := by rw [List.length_take, ← Lib.size_eq]; omega
  have hp : 16 ^ k ≤ 16 ^ 15 := Nat.pow_le_pow_right (by omega) (by omega)
  have hq : 16 ^ 15 ≤ 9223372036854775807 := by decide +kernel
  have h2 : cutV 16 9223372036854775807 (s.data.toList.take k) = valV 16 (s.data.toList.take k) := cutV_val 16 9223372036854775807 _ (by omega) ha (by rw [hl]; omega)
  rwa [h2] at this

end Go.Proofs.YtcmppmbieebkpaaDoor
