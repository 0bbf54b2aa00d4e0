/-
  Contract of strings.IndexAny at "/?", whatever the bytes of the text: a rune beyond 127 is none of the two, and its later bytes are none either.
-/
import Derived.Test.YtcmppmbieebkpaaGreatDoorOctIn
import Derived.Test.YtcmppmbieebkpaaGreatDoorOctTr
import Derived.Test.YtcmppmbieebkpaaGreatDoorComB
import Derived.Lib.MapLaws
import Derived.Lib.DecodeN
import Derived.Lib.IndexAny
import Derived.Lib.OthersKept
import Derived.WalkMore
import Derived.Laws.Runes
import Derived.Deep.RegionHeld3
import Derived.Deep.QuietTactic
import Derived.BigQuiet
import Derived.IntWalk
namespace Go.Proofs.YtcmppmbieebkpaaGreatDoor
open Go.RowKit

theorem enc_two (r : Nat) (h1 : 128 ≤ r) (h2 : r < 2048) : ∃ a b : UInt8, 128 ≤ b.toNat ∧ Utf8.encode (r : Int) = ⟨#[a, b]⟩ := by
  have hv : Utf8.valid (r : Int) = true := by unfold Utf8.valid; simp; omega
  refine ⟨UInt8.ofNat (0xC0 + r / 64), UInt8.ofNat (0x80 + r % 64), ?_, ?_⟩
  · rw [UInt8.toNat_ofNat']; omega
  · unfold Utf8.encode
    simp only [hv, if_true, Int.toNat_natCast]
    rw [if_neg (by omega), if_pos (by omega)]
theorem enc_more (r : Nat) (h : (2048 ≤ r ∧ r < 55296) ∨ (57344 ≤ r ∧ r ≤ 1114111)) : 3 ≤ (Utf8.encode (r : Int)).size ∧ (Utf8.encode (r : Int)).size ≤ 4 := by
  have hv : Utf8.valid (r : Int) = true := by unfold Utf8.valid; simp; omega
  unfold Utf8.encode
  simp only [hv, if_true, Int.toNat_natCast]
  rw [if_neg (by omega), if_neg (by omega)]
  split
  · exact ⟨Nat.le_refl 3, Nat.le_succ 3⟩
  · exact ⟨Nat.le_succ 3, Nat.le_refl 4⟩

set_option maxHeartbeats 1000000 in
set_option maxRecDepth 100000 in
theorem valid_rune (r : Int) (h : (128 ≤ r ∧ r < 55296) ∨ (57344 ≤ r ∧ r ≤ 1114111)) (w : World) :
    Calls Tryz.prog 87 #[.int .i32 r] w fun e w' => e = .returned (.bool true) ∧ w = w' := by
  rcases h with ⟨h1, h2⟩ | ⟨h1, h2⟩
  · have h0 : (0 : Int) ≤ r := by omega
    go_enter Tryz.func87, Tryz.ntmps87
    go_wp2
    go_ret
    exact ⟨rfl, rfl⟩
  · have h3 : ¬ r < 55296 := by omega
    have h4 : (57343 : Int) < r := by omega
    have h0 : (0 : Int) ≤ r := by omega
    go_enter Tryz.func87, Tryz.ntmps87
    go_wp2
    go_ret
    exact ⟨rfl, rfl⟩

set_option maxHeartbeats 2000000 in
set_option maxRecDepth 100000 in
/-- A byte below 128. -/
theorem runeIdx_low (s : ByteArray) (r : Int) (h0 : 0 ≤ r) (h1 : r < 128) (w : World) :
    Calls Tryz.prog 69 #[.string s, .int .i32 r] w fun e w' => e = .returned (.int .i64 (Lib.indexByte s.data.toList r.toNat.toUInt8)) ∧ w = w' := by
  have c := Lib.hid (idx_ext s r w)
  have hw : IntKind.u8.wrap r = r := by show r % 256 = r; omega
  go_enter Tryz.func69, Tryz.ntmps69
  go_wp2_with (go_at_call 40; refine (c.out).mono ?_; rintro e w' ⟨rfl, rfl⟩)
  go_ret
  exact ⟨rfl, rfl⟩

set_option maxHeartbeats 4000000 in
set_option maxRecDepth 100000 in
/-- No rune beyond 127 is in "/?". -/
theorem runeIdx_high (r : Nat) (R : Int) (hR : R = (r : Int)) (h : (128 ≤ r ∧ r < 55296) ∨ (57344 ≤ r ∧ r ≤ 1114111)) (w : World) :
    Calls Tryz.prog 69 #[.string ⟨#[47, 63]⟩, .int .i32 R] w fun e w' => e = .returned (.int .i64 (-1)) ∧ Below w.heap.size w w' := by
  have k0 : ¬ R < 128 := by omega
  have k0' : (0 : Int) ≤ R := by omega
  by_cases k1 : r = 65533
  · have hR2 : R = 65533 := by omega
    have k2 : (R == 65533) = true := by rw [hR2]; rfl
    clear hR k1 h hR2
    go_enter Tryz.func69, Tryz.ntmps69
    go_wp2
    go_loopw [5, 6] (fun _ _ wr => ∃ i : Nat, i ≤ 2 ∧ wr.heap[w.heap.size]? = some (.stringIter ⟨#[47, 63]⟩ i) ∧ Below w.heap.size w wr) (fun _ _ wr => match wr.heap[w.heap.size]? with | some (.stringIter _ i) => 2 - i | _ => 0)
    case atStart => exact ⟨0, by omega, heap_alloc_new w _, (Below.refl _ _).alloc (Nat.le_refl _) _⟩
    case round =>
      obtain ⟨i, hi, hk, hb⟩ := hrel
      have HB := Lib.hid hb
      have HK := Lib.hid hk
      have h3 : i = 0 ∨ i = 1 ∨ i = 2 := by omega
      rcases h3 with rfl | rfl | rfl
      · have hn := fun ty => Lib.run_next_ascii_at (P := Tryz.prog) wr w.heap.size ⟨#[47, 63]⟩ 0 ty hk (by decide) (by decide)
        have hh : Hid ((wr.iterAt w.heap.size ⟨#[47, 63]⟩ (0 + 1)).heap[w.heap.size]? = some (.stringIter ⟨#[47, 63]⟩ (0 + 1))) := Lib.iterAt_heap wr _ _ _ _ hk
        clear hk
        go_wp2
        go_roundw
        case rel => exact ⟨1, by omega, hh.out, Lib.below_iterAt HB.out (Nat.le_refl _) _ _⟩
        case measure => rw [hh.out, HK.out]; decide
      · have hn := fun ty => Lib.run_next_ascii_at (P := Tryz.prog) wr w.heap.size ⟨#[47, 63]⟩ 1 ty hk (by decide) (by decide)
        have hh : Hid ((wr.iterAt w.heap.size ⟨#[47, 63]⟩ (1 + 1)).heap[w.heap.size]? = some (.stringIter ⟨#[47, 63]⟩ (1 + 1))) := Lib.iterAt_heap wr _ _ _ _ hk
        clear hk
        go_wp2
        go_roundw
        case rel => exact ⟨2, by omega, hh.out, Lib.below_iterAt HB.out (Nat.le_refl _) _ _⟩
        case measure => rw [hh.out, HK.out]; decide
      · have hn := fun ty => Lib.run_next_end_at (P := Tryz.prog) wr w.heap.size ⟨#[47, 63]⟩ 2 ty hk (by decide)
        clear hk
        go_wp2
        go_ret
        exact ⟨rfl, HB.out⟩
  · have k2 : (R == 65533) = false := by rw [beq_eq_false_iff_ne]; omega
    have c := Lib.hid (valid_rune R (by omega) w)
    by_cases k3 : r < 2048
    · obtain ⟨a, b, hb, he⟩ := enc_two r (by omega) k3
      have ci := Lib.hid (idx_ext ByteArray.empty (b.toNat : Int) w)
      have hbn : ((63 : Int) != (b.toNat : Int)) = true := by rw [bne_iff_ne]; omega
      have hcv : ∀ W, (convert 21 9 (.int .i32 R)).run Tryz.prog W = .ok (.string ⟨#[a, b]⟩) W := fun W => by
        rw [run_convert_int_string W 21 9 .i32 R rfl (by kernel_rfl), hR, he]
      clear h k1 k3 he hR
      go_enter Tryz.func69, Tryz.ntmps69
      go_wp2_with (go_at_call 87; refine (c.out).mono ?_; rintro e w' ⟨rfl, rfl⟩)
      go_step3
      go_wp2
      go_loop [9, 10] (fun i f => i = .int .i64 1 ∧ f = .int .i64 0) (fun _ _ => 0)
      case atStart => exact ⟨rfl, rfl⟩
      case round =>
        obtain ⟨rfl, rfl⟩ := hrel
        have i1 : ∀ W, (Instr.index 9 (.string ⟨#[47, 63]⟩) (.int .i64 1)).run Tryz.prog W = .ok (.int .u8 63) W := fun W => by
          rw [run_index_string W _ _ _ _ Tryz.underlying9]; rfl
        have i2 : ∀ W, (Instr.index 9 (.string ⟨#[a, b]⟩) (.int .i64 1)).run Tryz.prog W = .ok (.int .u8 (b.toNat : Int)) W := fun W => by
          rw [run_index_string W _ _ _ _ Tryz.underlying9]; rfl
        go_wp2
        go_step3
        go_wp2
        go_quiet (fail)
        have i3 : ∀ W, (Instr.slice 9 (.string ⟨#[47, 63]⟩) (some (.int .i64 2)) none none).run Tryz.prog W = .ok (.string ByteArray.empty) W := fun W => by
          rw [run_slice_string_l W 9 _ Tryz.underlying9 .i64 2 (by omega) (by decide)]; rfl
        have iw : IntKind.i64.wrap (1 + 1) = 2 := rfl
        have iw2 : IntKind.i64.wrap 2 = 2 := rfl
        have ib : Lib.indexByte ByteArray.empty.data.toList ((b.toNat : Int)).toNat.toUInt8 = -1 := rfl
        go_wp2
        go_region_held3 (fun _ => True) (trivial) (first | (go_at_call 40; refine (idx_ext _ _ _).mono ?_; rintro e w' ⟨rfl, hww⟩; subst hww))
        all_goals (
          clear i1 i2 i3
          go_wp2
          rw [Exit.noGoto_ret]
          simp +zetaDelta only [Exit.inBlock, Exit.then, Exit.noGoto_ret]
          go_ret
          exact ⟨rfl, below_drewN (Below.refl _ _) _⟩)
    · obtain ⟨h1, h2⟩ := enc_more r (by omega)
      have hcv : ∀ W, (convert 21 9 (.int .i32 R)).run Tryz.prog W = .ok (.string (Utf8.encode (r : Int))) W := fun W => by
        rw [run_convert_int_string W 21 9 .i32 R rfl (by kernel_rfl), hR]
      generalize Utf8.encode (r : Int) = E at *
      clear h k1 k3 hR
      go_enter Tryz.func69, Tryz.ntmps69
      go_wp2_with (go_at_call 87; refine (c.out).mono ?_; rintro e w' ⟨rfl, rfl⟩)
      go_step3
      go_wp2
      go_loop [9, 10] (fun i f => i = .int .i64 ((E.size : Int) - 1) ∧ f = .int .i64 0) (fun _ _ => 0)
      case atStart => exact ⟨rfl, rfl⟩
      case round =>
        obtain ⟨rfl, rfl⟩ := hrel
        go_wp2
        go_ret
        exact ⟨rfl, Below.refl _ _⟩

theorem get_at (s : ByteArray) (i : Nat) (h : i < s.size) : s.get! i = s[i] := getElem!_pos s.data i h
/-- What the decoder reads where a byte beyond 127 stands. -/
theorem decode_high (s : ByteArray) (i : Nat) (hi : i < s.size) (h : 128 ≤ s[i].toNat) :
    (((128 ≤ (Utf8.decode s i).1 ∧ (Utf8.decode s i).1 < 55296) ∨ (57344 ≤ (Utf8.decode s i).1 ∧ (Utf8.decode s i).1 ≤ 1114111))) ∧ 1 ≤ (Utf8.decode s i).2 ∧ i + (Utf8.decode s i).2 ≤ s.size ∧
      ∀ j, i ≤ j → j < i + (Utf8.decode s i).2 → 128 ≤ (s.get! j).toNat := by
  have g0 : s.get! i = s[i] := get_at s i hi
  rw [Lib.decode_at, g0]
  have k1 := (s.get! (i + 1)).toNat_lt
  have k2 := (s.get! (i + 2)).toNat_lt
  have k3 := (s.get! (i + 3)).toNat_lt
  have k0 := s[i].toNat_lt
  rcases Lib.decodeN_shape (s.size - i) s[i].toNat (s.get! (i + 1)).toNat (s.get! (i + 2)).toNat (s.get! (i + 3)).toNat with ⟨c, e⟩ | ⟨c1, c2, c3, cv, e⟩ | ⟨c1, c2, c3, c4, cv, cs, e⟩ | ⟨c1, c2, c3, c4, c5, cv, cw, e⟩ | e
  · omega
  · rw [e]
    dsimp only
    refine ⟨by omega, by omega, by omega, fun j h1 h2 => ?_⟩
    have hj : j = i ∨ j = i + 1 := by omega
    rcases hj with rfl | rfl
    · rw [g0]; exact h
    · omega
  · rw [e]
    dsimp only
    refine ⟨by omega, by omega, by omega, fun j h1 h2 => ?_⟩
    have hj : j = i ∨ j = i + 1 ∨ j = i + 2 := by omega
    rcases hj with rfl | rfl | rfl
    · rw [g0]; exact h
    · omega
    · omega
  · rw [e]
    dsimp only
    refine ⟨by omega, by omega, by omega, fun j h1 h2 => ?_⟩
    have hj : j = i ∨ j = i + 1 ∨ j = i + 2 ∨ j = i + 3 := by omega
    rcases hj with rfl | rfl | rfl | rfl
    · rw [g0]; exact h
    · omega
    · omega
    · omega
  · rw [e]
    dsimp only
    refine ⟨by omega, by omega, by omega, fun j h1 h2 => ?_⟩
    obtain rfl : j = i := by omega
    rw [g0]; exact h

theorem noAny_high {l : List UInt8} {i k : Nat} (h : Lib.NoAny l [47, 63] i) (hh : ∀ j x, i ≤ j → j < i + k → l[j]? = some x → 128 ≤ x.toNat) : Lib.NoAny l [47, 63] (i + k) := fun j b hj hb => by
  by_cases hlt : j < i
  · exact h j b hlt hb
  · have h128 := hh j b (by omega) hj hb
    have h1 : b ≠ 47 := fun e => by rw [e] at h128; exact absurd h128 (by decide)
    have h2 : b ≠ 63 := fun e => by rw [e] at h128; exact absurd h128 (by decide)
    simp [h1, h2]

set_option maxHeartbeats 1000000 in
set_option maxRecDepth 100000 in
theorem ascii_set (n : Int) (w : World) :
    Calls Tryz.prog 70 #[.int .i64 n] w fun e w' => e = .returned (.bool (decide (8 < n))) ∧ w = w' := by
  go_enter Tryz.func70, Tryz.ntmps70
  go_wp2
  go_ret
  exact ⟨by simp, rfl⟩

def iterN (w : World) (k : Nat) : Nat := match w.heap[k]? with | some (.stringIter _ i) => i | _ => 0
theorem iterN_at {w : World} {k i : Nat} {s : ByteArray} (h : w.heap[k]? = some (.stringIter s i)) : iterN w k = i := by unfold iterN; rw [h]

set_option maxHeartbeats 4000000 in
set_option maxRecDepth 100000 in
theorem idxAny_short (s : ByteArray) (w : World) (hs : s.size ≤ 8) :
    Calls Tryz.prog 52 #[.string s, .string ⟨#[47, 63]⟩] w fun e w' => e = .returned (.int .i64 (Lib.indexAny s.data.toList [47, 63])) ∧ Below w.heap.size w w' := by
  have c := Lib.hid (fun W => ascii_set (s.size : Int) W)
  have hd : decide ((8 : Int) < (s.size : Int)) = false := decide_eq_false (by omega)
  rw [hd] at c
  clear hd
  go_enter Tryz.func52, Tryz.ntmps52
  go_wp2_with (go_at_call 70; refine (c.out _).mono ?_; rintro e w' ⟨rfl, rfl⟩)
  go_loopw [9, 10] (fun _ _ wr => ∃ i : Nat, i ≤ s.size ∧ wr.heap[w.heap.size]? = some (.stringIter s i) ∧ Hid (Lib.NoAny s.data.toList [47, 63] i) ∧ Below w.heap.size w wr) (fun _ _ wr => s.size - iterN wr w.heap.size)
  case atStart => exact ⟨0, Nat.zero_le _, heap_alloc_new w _, Lib.NoAny.zero _ _, (Below.refl _ _).alloc (Nat.le_refl _) _⟩
  case round =>
    obtain ⟨i, hi, hk, hn, hb⟩ := hrel
    have HB := Lib.hid hb
    have HK := Lib.hid hk
    by_cases hlt : i < s.size
    · by_cases h128 : s[i].toNat < 128
      · have hx := fun ty => Lib.run_next_ascii_at (P := Tryz.prog) wr w.heap.size s i ty hk hlt h128
        have hh : Hid ((wr.iterAt w.heap.size s (i + 1)).heap[w.heap.size]? = some (.stringIter s (i + 1))) := Lib.iterAt_heap wr _ _ _ _ hk
        have hc := fun W => runeIdx_low ⟨#[47, 63]⟩ (s[i].toNat : Int) (by omega) (by omega) W
        have hxl : s.data.toList[i]? = some s[i] := Lib.data_getElem? s i hlt
        have hcon := Lib.contains_iff_indexByte [47, 63] s[i]
        rw [show ((s[i].toNat : Int)).toNat.toUInt8 = s[i] by simp, show (⟨#[47, 63]⟩ : ByteArray).data.toList = [47, 63] from rfl] at hc
        cases hin : ([47, 63] : List UInt8).contains s[i] with
        | true =>
          rw [hin] at hcon
          have hge : (0 : Int) ≤ Lib.indexByte [47, 63] s[i] := of_decide_eq_true hcon.symm
          have HR := Lib.hid (Lib.indexAny_hit hn.out hxl hin)
          generalize Lib.indexByte [47, 63] s[i] = I at *
          have HC := Lib.hid hc
          clear hc hcon hin hxl hn hk h128
          go_wp2_with (go_at_call 69; refine (HC.out _).mono ?_; rintro e w' ⟨rfl, hww⟩; subst hww)
          go_ret
          exact ⟨by rw [HR.out]; rfl, Lib.below_iterAt HB.out (Nat.le_refl _) _ _⟩
        | false =>
          rw [hin] at hcon
          have hge : ¬ (0 : Int) ≤ Lib.indexByte [47, 63] s[i] := of_decide_eq_false hcon.symm
          have HR : Hid (Lib.NoAny s.data.toList [47, 63] (i + 1)) := hn.out.succ hxl hin
          generalize Lib.indexByte [47, 63] s[i] = I at *
          have HC := Lib.hid hc
          clear hc hcon hin hxl hn hk h128
          go_wp2_with (go_at_call 69; refine (HC.out _).mono ?_; rintro e w' ⟨rfl, hww⟩; subst hww)
          go_roundw
          case rel => exact ⟨i + 1, by omega, hh.out, HR, Lib.below_iterAt HB.out (Nat.le_refl _) _ _⟩
          case measure => rw [iterN_at hh.out, iterN_at HK.out]; omega
      · obtain ⟨d1, d2, d3, d4⟩ := decode_high s i hlt (by omega)
        have hx := fun ty => Lib.run_next_any_at (P := Tryz.prog) wr w.heap.size s i ty hk hlt
        have HR : Hid (Lib.NoAny s.data.toList [47, 63] (i + (Utf8.decode s i).2)) := noAny_high hn.out fun j x h1 h2 h3 => by
          have hj : j < s.size := by omega
          have := d4 j h1 h2
          rw [get_at s j hj] at this
          rw [Lib.data_getElem? s j hj] at h3
          rw [← Option.some.inj h3]; exact this
        clear d4
        generalize (Utf8.decode s i).1 = r at *
        generalize (Utf8.decode s i).2 = k at *
        have hh : Hid ((wr.iterAt w.heap.size s (i + k)).heap[w.heap.size]? = some (.stringIter s (i + k))) := Lib.iterAt_heap wr _ _ _ _ hk
        have HC := Lib.hid (fun W => runeIdx_high r (r : Int) rfl d1 W)
        clear hn hk h128 d1
        go_wp2_with (go_at_call 69; refine (HC.out _).mono ?_; rintro e w2 ⟨rfl, hb2⟩)
        go_roundw
        case rel => exact ⟨i + k, by omega, (hb2.block _ (Array.getElem?_eq_some_iff.1 hh.out).1).trans hh.out, HR, below_then (Lib.below_iterAt HB.out (Nat.le_refl _) _ _) hb2⟩
        case measure => rw [iterN_at ((hb2.block _ (Array.getElem?_eq_some_iff.1 hh.out).1).trans hh.out), iterN_at HK.out]; omega
    · have hx := fun ty => Lib.run_next_end_at (P := Tryz.prog) wr w.heap.size s i ty hk hlt
      have HR : Hid (Lib.indexAny s.data.toList [47, 63] = -1) := Lib.indexAny_none (by rw [← Lib.size_eq, show s.size = i by omega]; exact hn.out)
      clear hn hk
      go_wp2
      go_ret
      exact ⟨by rw [HR.out]; rfl, HB.out⟩

end Go.Proofs.YtcmppmbieebkpaaGreatDoor
