/-
  Contract of the reference's Put.
-/
import Derived.Test.YtjkeipbhhlljjaaWirU
namespace Go.Proofs.Ytjkeipbhhlljjaa
open Go.RowKit

theorem q_zero {q p N : Nat} (h : q = N / p) (hp : 0 < p) : q = 0 ↔ N < p := by
  subst h
  rw [Nat.div_eq_zero_iff]
  omega

/-- Bytes in memory of the call's own, that may be appended to, and a code. -/
def Own2 (w : World) (l : List UInt8) (code : Int) (e : Ending) (w' : World) : Prop :=
  ∃ v, e = .returned (.tuple #[v, .int .i64 code]) ∧ Own8 w' w.heap.size 5 v l ∧ Below w.heap.size w w'
theorem Own2.bytes {w : World} {l : List UInt8} {code : Int} {e : Ending} {w' : World} (h : Own2 w l code e w') : Bytes2 w l code e w' := by
  obtain ⟨v, he, ho, hb⟩ := h
  obtain ⟨A, c, rfl, hs⟩ := ho.sl8
  exact ⟨A, _, c, he, hs, hb⟩

theorem byte_mod (z : Int) : ∃ x : UInt8, z % 256 = (x.toNat : Int) := by
  refine ⟨UInt8.ofNat (z % 256).toNat, ?_⟩
  rw [ofNat_byte]
  omega
theorem tdiv_neg (p : Int) (h : p ≤ 0) : p ≤ p.tdiv 256 ∧ p.tdiv 256 ≤ 0 := by
  obtain ⟨m, hm⟩ := Int.eq_ofNat_of_zero_le (show 0 ≤ -p by omega)
  have e : p.tdiv 256 = -((m / 256 : Nat) : Int) := by
    rw [show p = -(m : Int) by omega, Int.neg_tdiv]
    rfl
  rw [e]
  omega

set_option maxHeartbeats 2000000 in
set_option maxRecDepth 100000 in
theorem r_put_own (A : Option Addr) (n c : Nat) (l : List UInt8) (N k : Int) (w : World) (h : Sl8 w A n c l) (hl : l.length ≤ 100000) (hN0 : -9223372036854775808 ≤ N) (hN1 : N ≤ 9223372036854775807) (hk0 : -9223372036854775808 ≤ k) (hk1 : k ≤ 9223372036854775807) :
    Calls Try.prog 9 #[.slice A n c, .int .i64 N, .int .i64 k] w (Own2 w (putL l N k) (putE N k)) := by
  rcases Bool.eq_false_or_eq_true (wideB k) with hw | hw
  · have hwk := wideB_yes.1 hw
    obtain ⟨K, rfl⟩ := Int.eq_ofNat_of_zero_le (show 0 ≤ k by omega)
    have HW := Lib.hid hw
    have hln := h.len
    have H := Lib.hid h
    have HO := Lib.hid (Own8.start w 5)
    have hb0 : Below w.heap.size w (w.alloc (.cells #[] 5)) := (Below.refl _ _).alloc (Nat.le_refl _) _
    clear hw hln
    by_cases hN : N < 0
    · have HG := Lib.hid (put_range HW.out (.inl hN) l)
      go_enter Try.func9, Try.ntmps9
      go_wp2_with (at_builtin; refine wpList_append_sl8 rfl _ _ 22 rfl w.heap.size 5 Try.underlying22 Try.infoU8 _ rfl [] HO.out A n c rfl l (H.out.alloc _) (by simp; omega) (by simp) w hb0 ?_; intro v' w2 hown hbel hsz2)
      rw [List.nil_append] at hown
      go_loopw [8, 9, 10] (fun v q i wr => ∃ (j : Nat) (p : Int) (X : List UInt8), j ≤ K ∧ i = .int .i64 j ∧ q = .int .i64 p ∧ -9223372036854775808 ≤ p ∧ p ≤ 0 ∧ X.length ≤ 100000 + j ∧ Hid (Own8 wr w.heap.size 5 v X) ∧ Below w.heap.size w wr) (fun _ _ i _ => K - (intOf i).toNat)
      case atStart => exact ⟨0, N, l, Nat.zero_le _, rfl, rfl, hN0, by omega, by omega, hown, hbel⟩
      case round =>
        clear hown hbel hb0
        obtain ⟨j, p, X, hj, rfl, rfl, hp0, hp1, hXl, hown, hbel⟩ := hrel
        have hbs := hbel.size
        by_cases hlt : j < K
        · obtain ⟨x, hx⟩ := byte_mod (p.tmod 256)
          have HB := Lib.hid (hbel.alloc hbs (Obj.cells #[.int .u8 (p.tmod 256 % 256)] 5))
          have hS := Lib.hid (Sl8.one wr 5 x hx)
          have HD := Lib.hid (tdiv_neg p (by omega))
          clear hx
          go_wp2_with (at_builtin; refine wpList_append_sl8 rfl _ _ 22 rfl w.heap.size 5 Try.underlying22 Try.infoU8 _ rfl X (hown.out.alloc _) _ 1 1 rfl [x] hS.out (by simp; omega) (by simp; omega) w HB.out ?_; intro v2 w3 hown3 hbel3 hsz3)
          go_roundw
          case rel => exact ⟨j + 1, p.tdiv 256, X ++ [x], by omega, by go_num, by first | rfl | go_num, by have := HD.out; omega, by have := HD.out; omega, by simp; omega, hown3, hbel3⟩
          case measure => simp [intOf]; omega
        · obtain rfl : j = K := by omega
          have HBL := Lib.hid hbel
          clear hbel hown
          go_wp2_with fail
          go_ret2
          rw [HG.out.1, HG.out.2]
          exact ⟨_, rfl, World.ownsRow_nil _ _ _ _, HBL.out⟩
    · obtain ⟨M, rfl⟩ := Int.eq_ofNat_of_zero_le (show 0 ≤ N by omega)
      go_enter Try.func9, Try.ntmps9
      go_wp2_with (at_builtin; refine wpList_append_sl8 rfl _ _ 22 rfl w.heap.size 5 Try.underlying22 Try.infoU8 _ rfl [] HO.out A n c rfl l (H.out.alloc _) (by simp; omega) (by simp) w hb0 ?_; intro v' w2 hown hbel hsz2)
      rw [List.nil_append] at hown
      go_loopw [8, 9, 10] (fun v q i wr => ∃ (j p : Nat) (X : List UInt8), j ≤ K ∧ i = .int .i64 j ∧ q = .int .i64 p ∧ Hid (p = M / 256 ^ j) ∧ p ≤ M ∧ Hid (X = l ++ leL M j) ∧ X.length ≤ 100007 ∧ Hid (Own8 wr w.heap.size 5 v X) ∧ Below w.heap.size w wr) (fun _ _ i _ => K - (intOf i).toNat)
      case atStart => exact ⟨0, M, l, Nat.zero_le _, rfl, rfl, by show M = _; simp, Nat.le_refl _, by show l = _; rw [leL_zero]; simp, by omega, hown, hbel⟩
      case round =>
        clear hown hbel hb0
        obtain ⟨j, p, X, hj, rfl, rfl, hp, hpM, hX, hXl, hown, hbel⟩ := hrel
        have hbs := hbel.size
        by_cases hlt : j < K
        · have hb2 : Below w.heap.size w (wr.alloc (.cells #[.int .u8 ((p : Int) % 256)] 5)) := hbel.alloc hbs _
          have hS := Lib.hid (Sl8.one wr 5 (UInt8.ofNat p) (z := (p : Int) % 256) (by rw [ofNat_byte]; simp))
          have hXL : X.length ≤ 100006 := by
            have := congrArg List.length hX.out
            rw [List.length_append, leL_len] at this
            omega
          have HB := Lib.hid hb2
          clear hb2
          go_wp2_with (at_builtin; refine wpList_append_sl8 rfl _ _ 22 rfl w.heap.size 5 Try.underlying22 Try.infoU8 _ rfl X (hown.out.alloc _) _ 1 1 rfl [UInt8.ofNat p] hS.out (by simp; omega) (by simp; omega) w HB.out ?_; intro v2 w3 hown3 hbel3 hsz3)
          go_roundw
          case rel => exact ⟨j + 1, p / 256, X ++ [UInt8.ofNat p], by omega, by go_num, by go_num, by show _ = _; rw [hp.out, Nat.pow_succ, Nat.div_div_eq_div_mul], by omega, by show _ = _; rw [hX.out, leL_succ, hp.out, List.append_assoc], by simp; omega, hown3, hbel3⟩
          case measure => simp [intOf]; omega
        · obtain rfl : j = K := by omega
          have hq := q_zero hp.out (Nat.pow_pos (by decide : 0 < 256))
          have HQ := Lib.hid hq
          have HBL := Lib.hid hbel
          clear hq hbel
          go_wp2_with fail
          · have h3 : (M : Int) < 0 ∨ 0 < p := by assumption
            have hg := put_range (n := (M : Int)) HW.out (.inr (by
              have := HQ.out
              rw [Int.toNat_natCast, pow_int]
              omega)) l
            go_ret2
            rw [hg.1, hg.2]
            exact ⟨_, rfl, World.ownsRow_nil _ _ _ _, HBL.out⟩
          · have h3 : 0 ≤ (M : Int) ∧ ¬ 0 < p := by assumption
            have hg := put_ok (n := (M : Int)) HW.out (by
              have := HQ.out
              rw [Int.toNat_natCast, pow_int]
              omega) l
            go_ret2
            rw [hg.1, hg.2]
            simp only [Int.toNat_natCast]
            rw [← hX.out]
            exact ⟨_, rfl, hown.out, HBL.out⟩
  · have HG := Lib.hid (put_wide (n := N) hw l)
    rcases wideB_no.1 hw with h1 | h1
    all_goals
      clear hw
      go_enter Try.func9, Try.ntmps9
      go_wp2_with fail
      go_ret2
      rw [HG.out.1, HG.out.2]
      exact ⟨_, rfl, World.ownsRow_nil _ _ _ _, Below.refl _ _⟩

theorem r_put (A : Option Addr) (n c : Nat) (l : List UInt8) (N k : Int) (w : World) (h : Sl8 w A n c l) (hl : l.length ≤ 100000) (hN0 : -9223372036854775808 ≤ N) (hN1 : N ≤ 9223372036854775807) (hk0 : -9223372036854775808 ≤ k) (hk1 : k ≤ 9223372036854775807) :
    Calls Try.prog 9 #[.slice A n c, .int .i64 N, .int .i64 k] w (Bytes2 w (putL l N k) (putE N k)) :=
  (r_put_own A n c l N k w h hl hN0 hN1 hk0 hk1).mono fun _ _ h => h.bytes

end Go.Proofs.Ytjkeipbhhlljjaa
