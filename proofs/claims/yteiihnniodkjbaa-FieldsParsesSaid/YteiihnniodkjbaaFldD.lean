/-
  Contracts of package fields' proper, Line, long, alike; the tests that choose, IndexFunc and ContainsFunc are handed.
-/
import Derived.Test.YteiihnniodkjbaaFldC
import Derived.Test.YteiihnniodkjbaaOctTx
import Derived.Test.YteiihnniodkjbaaOctTr
import Derived.Test.YteiihnniodkjbaaOctLo
import Derived.Deep.RegionHeld3
namespace Go.Proofs.Yteiihnniodkjbaa
open Go.RowKit
set_option linter.unusedSimpArgs false

/-! ### One operation of a region that draws, taken by hand: one that is wanted, one that is not -/
theorem take_yes {P : Program} {ops : Array Oper} {Q : Exit → Act → World → Prop} {md : Region.Mode} {S : World → Prop} {i d : Nat} {oi : Oper} {v : Value} {fuel : Nat} {listed : Array Bool} {a : Act} {w : World} (hi : ops[i]? = some oi) (hd : oi.dst = some d)
    (hs : Region.noSelect ops = true) (hf : Region.free md ops listed i = true) (hr : (Region.ready md ops listed).contains i = true)
    (hw : Region.wanted oi (yielded ops a.tmps) = true) (hQ : ∀ c a w, Q (.panic c) (a.put oi.dst v) w → Q (.panic c) a w) (hy : ∀ w, S w → (execOp a.eval oi).run P w = .ok (.value v) w) (hS : S w)
    (h : wpAnyH P md ops Q S fuel (listed.setIfInBounds i true) (a.put (some d) v) w) : wpAnyH P md ops Q S (fuel + 1) listed a w :=
  wpAnyH_take hi hs hf hr hQ (.inl ⟨hw, hy⟩) hS (by rw [hd]; exact h)
theorem take_not {P : Program} {ops : Array Oper} {Q : Exit → Act → World → Prop} {md : Region.Mode} {S : World → Prop} {i d : Nat} {oi : Oper} {fuel : Nat} {listed : Array Bool} {a : Act} {w : World} (hi : ops[i]? = some oi) (hd : oi.dst = some d)
    (hs : Region.noSelect ops = true) (hf : Region.free md ops listed i = true) (hr : (Region.ready md ops listed).contains i = true)
    (hw : Region.wanted oi (yielded ops a.tmps) = false) (hQ : ∀ c a w, Q (.panic c) (a.put oi.dst undef) w → Q (.panic c) a w) (hS : S w)
    (h : wpAnyH P md ops Q S fuel (listed.setIfInBounds i true) (a.put (some d) undef) w) : wpAnyH P md ops Q S (fuel + 1) listed a w :=
  wpAnyH_take hi hs hf hr hQ (.inr ⟨hw, rfl⟩) hS (by rw [hd]; exact h)

set_option maxHeartbeats 16000000 in
set_option maxRecDepth 100000 in
theorem proper_any (x : Fd) (hz1 : x.1.size ≤ maxLen) (hz2 : x.2.size ≤ maxLen) (w : World) :
    Calls Try.prog 33 #[fdV x] w fun e w' => e = .returned (.bool (prpF x)) ∧ Below w.heap.size w w' := by
  obtain ⟨a, b⟩ := x
  have hD : prpF (a, b) = (((!a.toList.isEmpty && allB tokB a.data.toList) && allB txtB b.data.toList) && ((mkS (trimL b.data.toList)).toList == b.toList)) := rfl
  have ct := fun W => isToken_any a W hz1
  have cx := fun W => isText_any b W hz2
  have cm := fun W => trim_any b W hz2
  rw [hD]
  clear hD
  generalize (!a.toList.isEmpty && allB tokB a.data.toList) = T at *
  generalize allB txtB b.data.toList = X at *
  generalize mkS (trimL b.data.toList) = S at *
  have CT := Lib.hid ct
  have CX := Lib.hid cx
  have CM := Lib.hid cm
  clear ct cx cm hz1 hz2
  have hb : Below w.heap.size w (w.alloc (.cells #[.string a, .string b] 26)).drew := ((Below.refl _ _).alloc (Nat.le_refl _) _).drew
  have HA : Hid ((w.alloc (.cells #[.string a, .string b] 26)).drew.heap[w.heap.size]? = some (.cells #[.string a, .string b] 26 (0, 0))) := heap_alloc_new w _
  unfold fdV
  have both : ∀ t : Bool, t = true ∨ t = false := fun t => by cases t <;> simp
  rcases both T with rfl | rfl
  · rcases both X with rfl | rfl
    · rcases both (S.toList == b.toList) with hS | hS
      all_goals
        go_enter Try.func33, Try.ntmps33
        go_wp2_with fail
        go_region_held3 (fun W => W.cell? ⟨w.heap.size, 0, none⟩ = some (.string a) ∧ W.cell? ⟨w.heap.size, 1, none⟩ = some (.string b)) (exact zero_two HA.out) (first
          | (go_at_call 57; refine (CT.out _).mono ?_; rintro e v1 ⟨rfl, hb'⟩; have HA := Lib.hid (zero_still hb' HA.out); have hb := below_then hb hb'; clear hb')
          | (go_at_call 58; refine (CX.out _).mono ?_; rintro e v2 ⟨rfl, hb'⟩; have HA := Lib.hid (zero_still hb' HA.out); have hb := below_then hb hb'; clear hb')
          | (go_at_call 32; refine (CM.out _).mono ?_; rintro e v3 ⟨rfl, hb'⟩; have HA := Lib.hid (zero_still hb' HA.out); have hb := below_then hb hb'; clear hb'))
        go_wp2_with fail
        go_ret
        exact ⟨by simp [hS], hb⟩
    · skip
      go_enter Try.func33, Try.ntmps33
      go_wp2_with fail
      refine wp_region_held_drew (S := fun W => W.cell? ⟨w.heap.size, 0, none⟩ = some (.string a) ∧ W.cell? ⟨w.heap.size, 1, none⟩ = some (.string b)) (by kernel_rfl) (zero_two HA.out) (fun hHeld => ?_)
      refine take_yes (i := 0) (v := ?_) rfl rfl (by kernel_rfl) (by kernel_rfl) (by kernel_rfl) (by rfl) (fun _ _ _ h => h) ?y7 (by assumption) ?r7
      case y7 => (intro w hSw; (try dsimp only at hSw); go_simp; try with_reducible rfl)
      try simp only [Act.put, List.setIfInBounds_toArray, List.set_cons_zero, List.set_cons_succ]
      refine take_yes (i := 1) (v := ?_) rfl rfl (by kernel_rfl) (by kernel_rfl) (by kernel_rfl) (by rfl) (fun _ _ _ h => h) ?y8 (by assumption) ?r8
      case y8 => (intro w hSw; (try dsimp only at hSw); go_simp; try with_reducible rfl)
      try simp only [Act.put, List.setIfInBounds_toArray, List.set_cons_zero, List.set_cons_succ]
      refine wpAnyH_ready (rs := [2]) (by kernel_rfl) (by simp) (AllReadyH.cons rfl (fun K hK => ?_) AllReadyH.nil)
      go_simp
      go_at_call 57
      refine (CT.out _).mono ?_
      rintro e v1 ⟨rfl, hb'⟩
      have HA := Lib.hid (zero_still hb' HA.out)
      have hb := below_then hb hb'
      clear hb'
      go_wp2_with fail
      refine hK.out _ _ (zero_two HA.out) (fun hHeld => ?_)
      clear hK
      try simp only [Act.put, List.setIfInBounds_toArray, List.set_cons_zero, List.set_cons_succ]
      refine take_yes (i := 3) (v := ?_) rfl rfl (by kernel_rfl) (by kernel_rfl) (by kernel_rfl) (by rfl) (fun _ _ _ h => h) ?y9 (by assumption) ?r9
      case y9 => (intro w hSw; (try dsimp only at hSw); go_simp; try with_reducible rfl)
      try simp only [Act.put, List.setIfInBounds_toArray, List.set_cons_zero, List.set_cons_succ]
      refine take_yes (i := 4) (v := ?_) rfl rfl (by kernel_rfl) (by kernel_rfl) (by kernel_rfl) (by rfl) (fun _ _ _ h => h) ?y10 (by assumption) ?r10
      case y10 => (intro w hSw; (try dsimp only at hSw); go_simp; try with_reducible rfl)
      try simp only [Act.put, List.setIfInBounds_toArray, List.set_cons_zero, List.set_cons_succ]
      refine take_yes (i := 5) (v := ?_) rfl rfl (by kernel_rfl) (by kernel_rfl) (by kernel_rfl) (by rfl) (fun _ _ _ h => h) ?y11 (by assumption) ?r11
      case y11 => (intro w hSw; (try dsimp only at hSw); go_simp; try with_reducible rfl)
      try simp only [Act.put, List.setIfInBounds_toArray, List.set_cons_zero, List.set_cons_succ]
      refine wpAnyH_ready (rs := [6]) (by kernel_rfl) (by simp) (AllReadyH.cons rfl (fun K hK => ?_) AllReadyH.nil)
      go_simp
      go_at_call 58
      refine (CX.out _).mono ?_
      rintro e v2 ⟨rfl, hb'⟩
      have HA := Lib.hid (zero_still hb' HA.out)
      have hb := below_then hb hb'
      clear hb'
      go_wp2_with fail
      refine hK.out _ _ (zero_two HA.out) (fun hHeld => ?_)
      clear hK
      try simp only [Act.put, List.setIfInBounds_toArray, List.set_cons_zero, List.set_cons_succ]
      refine take_yes (i := 7) (v := ?_) rfl rfl (by kernel_rfl) (by kernel_rfl) (by kernel_rfl) (by rfl) (fun _ _ _ h => h) ?y12 (by assumption) ?r12
      case y12 => (intro w hSw; (try dsimp only at hSw); go_simp; try with_reducible rfl)
      try simp only [Act.put, List.setIfInBounds_toArray, List.set_cons_zero, List.set_cons_succ]
      refine take_yes (i := 8) (v := ?_) rfl rfl (by kernel_rfl) (by kernel_rfl) (by kernel_rfl) (by rfl) (fun _ _ _ h => h) ?y13 (by assumption) ?r13
      case y13 => (intro w hSw; (try dsimp only at hSw); go_simp; try with_reducible rfl)
      try simp only [Act.put, List.setIfInBounds_toArray, List.set_cons_zero, List.set_cons_succ]
      refine take_not (i := 9) rfl rfl (by kernel_rfl) (by kernel_rfl) (by kernel_rfl) (by rfl) (fun _ _ _ h => h) (by assumption) ?_
      try simp only [Act.put, List.setIfInBounds_toArray, List.set_cons_zero, List.set_cons_succ]
      refine take_not (i := 10) rfl rfl (by kernel_rfl) (by kernel_rfl) (by kernel_rfl) (by rfl) (fun _ _ _ h => h) (by assumption) ?_
      try simp only [Act.put, List.setIfInBounds_toArray, List.set_cons_zero, List.set_cons_succ]
      refine take_not (i := 11) rfl rfl (by kernel_rfl) (by kernel_rfl) (by kernel_rfl) (by rfl) (fun _ _ _ h => h) (by assumption) ?_
      try simp only [Act.put, List.setIfInBounds_toArray, List.set_cons_zero, List.set_cons_succ]
      refine take_not (i := 12) rfl rfl (by kernel_rfl) (by kernel_rfl) (by kernel_rfl) (by rfl) (fun _ _ _ h => h) (by assumption) ?_
      try simp only [Act.put, List.setIfInBounds_toArray, List.set_cons_zero, List.set_cons_succ]
      refine take_not (i := 13) rfl rfl (by kernel_rfl) (by kernel_rfl) (by kernel_rfl) (by rfl) (fun _ _ _ h => h) (by assumption) ?_
      try simp only [Act.put, List.setIfInBounds_toArray, List.set_cons_zero, List.set_cons_succ]
      refine take_not (i := 14) rfl rfl (by kernel_rfl) (by kernel_rfl) (by kernel_rfl) (by rfl) (fun _ _ _ h => h) (by assumption) ?_
      try simp only [Act.put, List.setIfInBounds_toArray, List.set_cons_zero, List.set_cons_succ]
      refine take_yes (i := 15) (v := ?_) rfl rfl (by kernel_rfl) (by kernel_rfl) (by kernel_rfl) (by rfl) (fun _ _ _ h => h) ?y14 (by assumption) ?r14
      case y14 => (intro w hSw; (try dsimp only at hSw); go_simp; try with_reducible rfl)
      try simp only [Act.put, List.setIfInBounds_toArray, List.set_cons_zero, List.set_cons_succ]
      refine wpAnyH_ready (rs := [16]) (by kernel_rfl) (by simp) (AllReadyH.cons rfl (fun K hK => ?_) AllReadyH.nil)
      go_simp
      refine hK.out _ _ hHeld (fun hHeld2 => ?_)
      clear hK
      refine wpAnyH_done (by kernel_rfl) ?_ _
      go_wp2_with fail
      go_ret
      exact ⟨by simp, hb⟩
  · skip
    go_enter Try.func33, Try.ntmps33
    go_wp2_with fail
    refine wp_region_held_drew (S := fun W => W.cell? ⟨w.heap.size, 0, none⟩ = some (.string a) ∧ W.cell? ⟨w.heap.size, 1, none⟩ = some (.string b)) (by kernel_rfl) (zero_two HA.out) (fun hHeld => ?_)
    refine take_yes (i := 0) (v := ?_) rfl rfl (by kernel_rfl) (by kernel_rfl) (by kernel_rfl) (by rfl) (fun _ _ _ h => h) ?y1 (by assumption) ?r1
    case y1 => (intro w hSw; (try dsimp only at hSw); go_simp; try with_reducible rfl)
    try simp only [Act.put, List.setIfInBounds_toArray, List.set_cons_zero, List.set_cons_succ]
    refine take_yes (i := 1) (v := ?_) rfl rfl (by kernel_rfl) (by kernel_rfl) (by kernel_rfl) (by rfl) (fun _ _ _ h => h) ?y2 (by assumption) ?r2
    case y2 => (intro w hSw; (try dsimp only at hSw); go_simp; try with_reducible rfl)
    try simp only [Act.put, List.setIfInBounds_toArray, List.set_cons_zero, List.set_cons_succ]
    refine wpAnyH_ready (rs := [2]) (by kernel_rfl) (by simp) (AllReadyH.cons rfl (fun K hK => ?_) AllReadyH.nil)
    go_simp
    go_at_call 57
    refine (CT.out _).mono ?_
    rintro e v1 ⟨rfl, hb'⟩
    have HA := Lib.hid (zero_still hb' HA.out)
    have hb := below_then hb hb'
    clear hb'
    go_wp2_with fail
    refine hK.out _ _ (zero_two HA.out) (fun hHeld => ?_)
    clear hK
    try simp only [Act.put, List.setIfInBounds_toArray, List.set_cons_zero, List.set_cons_succ]
    refine take_yes (i := 3) (v := ?_) rfl rfl (by kernel_rfl) (by kernel_rfl) (by kernel_rfl) (by rfl) (fun _ _ _ h => h) ?y3 (by assumption) ?r3
    case y3 => (intro w hSw; (try dsimp only at hSw); go_simp; try with_reducible rfl)
    try simp only [Act.put, List.setIfInBounds_toArray, List.set_cons_zero, List.set_cons_succ]
    refine take_not (i := 4) rfl rfl (by kernel_rfl) (by kernel_rfl) (by kernel_rfl) (by rfl) (fun _ _ _ h => h) (by assumption) ?_
    try simp only [Act.put, List.setIfInBounds_toArray, List.set_cons_zero, List.set_cons_succ]
    refine take_not (i := 5) rfl rfl (by kernel_rfl) (by kernel_rfl) (by kernel_rfl) (by rfl) (fun _ _ _ h => h) (by assumption) ?_
    try simp only [Act.put, List.setIfInBounds_toArray, List.set_cons_zero, List.set_cons_succ]
    refine take_not (i := 6) rfl rfl (by kernel_rfl) (by kernel_rfl) (by kernel_rfl) (by rfl) (fun _ _ _ h => h) (by assumption) ?_
    try simp only [Act.put, List.setIfInBounds_toArray, List.set_cons_zero, List.set_cons_succ]
    refine take_yes (i := 7) (v := ?_) rfl rfl (by kernel_rfl) (by kernel_rfl) (by kernel_rfl) (by rfl) (fun _ _ _ h => h) ?y4 (by assumption) ?r4
    case y4 => (intro w hSw; (try dsimp only at hSw); go_simp; try with_reducible rfl)
    try simp only [Act.put, List.setIfInBounds_toArray, List.set_cons_zero, List.set_cons_succ]
    refine take_yes (i := 8) (v := ?_) rfl rfl (by kernel_rfl) (by kernel_rfl) (by kernel_rfl) (by rfl) (fun _ _ _ h => h) ?y5 (by assumption) ?r5
    case y5 => (intro w hSw; (try dsimp only at hSw); go_simp; try with_reducible rfl)
    try simp only [Act.put, List.setIfInBounds_toArray, List.set_cons_zero, List.set_cons_succ]
    refine take_not (i := 9) rfl rfl (by kernel_rfl) (by kernel_rfl) (by kernel_rfl) (by rfl) (fun _ _ _ h => h) (by assumption) ?_
    try simp only [Act.put, List.setIfInBounds_toArray, List.set_cons_zero, List.set_cons_succ]
    refine take_not (i := 10) rfl rfl (by kernel_rfl) (by kernel_rfl) (by kernel_rfl) (by rfl) (fun _ _ _ h => h) (by assumption) ?_
    try simp only [Act.put, List.setIfInBounds_toArray, List.set_cons_zero, List.set_cons_succ]
    refine take_not (i := 11) rfl rfl (by kernel_rfl) (by kernel_rfl) (by kernel_rfl) (by rfl) (fun _ _ _ h => h) (by assumption) ?_
    try simp only [Act.put, List.setIfInBounds_toArray, List.set_cons_zero, List.set_cons_succ]
    refine take_not (i := 12) rfl rfl (by kernel_rfl) (by kernel_rfl) (by kernel_rfl) (by rfl) (fun _ _ _ h => h) (by assumption) ?_
    try simp only [Act.put, List.setIfInBounds_toArray, List.set_cons_zero, List.set_cons_succ]
    refine take_not (i := 13) rfl rfl (by kernel_rfl) (by kernel_rfl) (by kernel_rfl) (by rfl) (fun _ _ _ h => h) (by assumption) ?_
    try simp only [Act.put, List.setIfInBounds_toArray, List.set_cons_zero, List.set_cons_succ]
    refine take_not (i := 14) rfl rfl (by kernel_rfl) (by kernel_rfl) (by kernel_rfl) (by rfl) (fun _ _ _ h => h) (by assumption) ?_
    try simp only [Act.put, List.setIfInBounds_toArray, List.set_cons_zero, List.set_cons_succ]
    refine take_yes (i := 15) (v := ?_) rfl rfl (by kernel_rfl) (by kernel_rfl) (by kernel_rfl) (by rfl) (fun _ _ _ h => h) ?y6 (by assumption) ?r6
    case y6 => (intro w hSw; (try dsimp only at hSw); go_simp; try with_reducible rfl)
    try simp only [Act.put, List.setIfInBounds_toArray, List.set_cons_zero, List.set_cons_succ]
    refine wpAnyH_ready (rs := [16]) (by kernel_rfl) (by simp) (AllReadyH.cons rfl (fun K hK => ?_) AllReadyH.nil)
    go_simp
    refine hK.out _ _ hHeld (fun hHeld2 => ?_)
    clear hK
    refine wpAnyH_done (by kernel_rfl) ?_ _
    go_wp2_with fail
    go_ret
    exact ⟨by simp, hb⟩

theorem line_any (x : Fd) (hz : x.1.size + 2 + x.2.size ≤ 9223372036854775807) (w : World) :
    Calls Try.prog 12 #[fdV x] w fun e w' => e = .returned (.string (lineS x)) ∧ Below w.heap.size w w' := by
  obtain ⟨a, b⟩ := x
  have hD : lineS (a, b) = a ++ (⟨#[58, 32]⟩ : ByteArray) ++ b := rfl
  rw [hD]
  unfold fdV
  have hy : a.size + 2 + b.size ≤ 9223372036854775807 := hz
  clear hz
  have zz : (a ++ (⟨#[58, 32]⟩ : ByteArray)).size = a.size + 2 := by rw [ByteArray.size_append]; rfl
  have k1 : ¬ 9223372036854775807 < a.size + 2 := by omega
  have k2 : ¬ 9223372036854775807 < a.size + 2 + b.size := by omega
  go_enter Try.func12, Try.ntmps12
  go_wp2_with fail
  go_ret
  exact ⟨rfl, (Below.refl _ _).alloc (Nat.le_refl _) _⟩

theorem long_any (x : Fd) (hz : x.1.size + 2 + x.2.size ≤ 9223372036854775807) (w : World) :
    Calls Try.prog 40 #[fdV x] w fun e w' => e = .returned (.bool (lngF x)) ∧ Below w.heap.size w w' := by
  have cl := fun W => line_any x hz W
  have hS := line_size x
  have hD : lngF x = decide ((8192 : Int) < ((lineS x).size : Int)) := by
    unfold lngF
    rw [hS]
    by_cases h : 8192 < x.1.size + 2 + x.2.size
    · rw [decide_eq_true h, decide_eq_true (by omega)]
    · rw [decide_eq_false h, decide_eq_false (by omega)]
  rw [hD]
  generalize lineS x = S at *
  obtain ⟨a, b⟩ := x
  unfold fdV at *
  have hb0 : Below w.heap.size w (w.alloc (.cells #[.string a, .string b] 26)) := (Below.refl _ _).alloc (Nat.le_refl _) _
  have CL := Lib.hid cl
  clear cl hS hD
  go_enter Try.func40, Try.ntmps40
  go_wp2_with fail
  refine (CL.out _).mono ?_
  rintro e w1 ⟨rfl, hb1⟩
  go_wp2_with fail
  all_goals
    go_ret
    exact ⟨by simp_all, below_then hb0 hb1⟩

theorem alike_any (x y : Fd) (hz1 : x.1.size ≤ maxLen) (hz3 : y.1.size ≤ maxLen) (w : World) :
    Calls Try.prog 53 #[fdV x, fdV y] w fun e w' => e = .returned (.bool (alk x y)) ∧ Below w.heap.size w w' := by
  obtain ⟨a, b⟩ := x
  obtain ⟨a', b'⟩ := y
  have hD : alk (a, b) (a', b') = (sameB a a' && (b.toList == b'.toList)) := rfl
  have cs := fun W => same_any a a' W hz1 hz3
  rw [hD]
  clear hD
  unfold fdV
  have hb0 : Below w.heap.size w ((w.alloc (.cells #[.string a, .string b] 26)).alloc (.cells #[.string a', .string b'] 26)) := ((Below.refl _ _).alloc (Nat.le_refl _) _).alloc (by simp) _
  have g0 : ((w.alloc (.cells #[.string a, .string b] 26)).alloc (.cells #[.string a', .string b'] 26)).heap[w.heap.size]? = some (.cells #[.string a, .string b] 26 (0, 0)) := heap_alloc2_old w _ _
  have g1 : ((w.alloc (.cells #[.string a, .string b] 26)).alloc (.cells #[.string a', .string b'] 26)).heap[w.heap.size + 1]? = some (.cells #[.string a', .string b'] 26 (0, 0)) := heap_alloc2_new w _ _
  have HB0 := Lib.hid hb0
  have G0 := Lib.hid g0
  have G1 := Lib.hid g1
  generalize sameB a a' = T at *
  have CS := Lib.hid cs
  clear cs hb0 g0 g1
  have both : ∀ t : Bool, t = true ∨ t = false := fun t => by cases t <;> simp
  rcases both T with rfl | rfl
  · rcases both (b.toList == b'.toList) with hS | hS
    all_goals
      go_enter Try.func53, Try.ntmps53
      go_wp2_with fail
      refine (CS.out _).mono ?_
      rintro e w1 ⟨rfl, hb1⟩
      obtain ⟨u0, u1⟩ := zero_two (zero_still hb1 G0.out)
      obtain ⟨v0, v1⟩ := zero_two (zero_still hb1 G1.out)
      go_wp2_with fail
      go_ret
      exact ⟨by simp [hS], below_then HB0.out hb1⟩
  · go_enter Try.func53, Try.ntmps53
    go_wp2_with fail
    refine (CS.out _).mono ?_
    rintro e w1 ⟨rfl, hb1⟩
    go_wp2_with fail
    go_ret
    exact ⟨by simp, below_then HB0.out hb1⟩

/-! ### The tests -/
theorem enters_named : ∀ args W, (callFunc 64 args).run Try.prog W = .ok (.enter 64 args) W := Go.Proofs.enters_of Try.func64 (by kernel_rfl) rfl
theorem enters_not : ∀ args W, (callFunc 62 args).run Try.prog W = .ok (.enter 62 args) W := Go.Proofs.enters_of Try.func62 (by kernel_rfl) rfl
theorem enters_long : ∀ args W, (callFunc 40 args).run Try.prog W = .ok (.enter 40 args) W := Go.Proofs.enters_of Try.func40 (by kernel_rfl) rfl
theorem enters_proper : ∀ args W, (callFunc 33 args).run Try.prog W = .ok (.enter 33 args) W := Go.Proofs.enters_of Try.func33 (by kernel_rfl) rfl
theorem enters_alike : ∀ args W, (callFunc 53 args).run Try.prog W = .ok (.enter 53 args) W := Go.Proofs.enters_of Try.func53 (by kernel_rfl) rfl
theorem enters_has : ∀ args W, (callFunc 47 args).run Try.prog W = .ok (.enter 47 args) W := Go.Proofs.enters_of Try.func47 (by kernel_rfl) rfl

theorem named_pred (w : World) (a : Nat) (A : Option Addr) (n c : Nat) (names : List (List UInt8)) (ha : w.cell? ⟨a, 0, none⟩ = some (.slice A n c)) (h : SlS w A n c names) (hz : ∀ x ∈ names, x.length ≤ maxLen) (hn : n ≤ 1000000000) :
    PredF w 64 #[.pointer (some ⟨a, 0, none⟩)] (nmd names) := fun W x hb h1 =>
  named_in a A n c names W (cell_kept hb ha) (h.below hb) hz hn x h1.one
theorem long_pred (w : World) : PredF w 40 #[] lngF := fun W x _ h1 => long_any x (by have := h1.1; have := h1.2; omega) W
theorem proper_pred (w : World) : PredF w 33 #[] prpF := fun W x _ h1 => proper_any x h1.one h1.two W
theorem alike_pred (w : World) : PredT w 53 #[] alk := fun W x y _ h1 h3 => alike_any x y h1.one h3.one W
theorem not_pred (w : World) (a : Nat) (g : Nat) (caps : Array Value) (p : Fd → Bool) (ha : w.cell? ⟨a, 0, none⟩ = some (.func (.func g) #[] caps))
    (eg : ∀ args W, (callFunc g args).run Try.prog W = .ok (.enter g args) W) (hp : PredF w g caps p) :
    PredF w 62 #[.pointer (some ⟨a, 0, none⟩)] (fun x => !p x) := fun W x hb h1 => by
  have ha' := cell_kept hb ha
  have hb0 : Below W.heap.size W (W.alloc (.cells #[.string x.1, .string x.2] 26)) := (Below.refl _ _).alloc (Nat.le_refl _) _
  have hcall := hp (W.alloc (.cells #[.string x.1, .string x.2] 26)) x (hb.alloc hb.size _) h1
  have ha2 := Lib.cell?_alloc_some (.cells #[.string x.1, .string x.2] 26) ha'
  obtain ⟨f, v⟩ := x
  show Calls Try.prog 62 #[fdV (f, v), .pointer (some ⟨a, 0, none⟩)] W (fun e w' => e = .returned (.bool (!p (f, v))) ∧ Below W.heap.size W w')
  unfold fdV at *
  have HC := Lib.hid hcall
  clear hcall hp
  generalize p (f, v) = q at *
  cases q
  all_goals
    go_enter Try.func62, Try.ntmps62
    go_wp2_with fail
    refine HC.out.mono ?_
    rintro e w1 ⟨rfl, hb1⟩
    go_wp2_with fail
    go_ret
    exact ⟨rfl, below_then hb0 hb1⟩

end Go.Proofs.Yteiihnniodkjbaa
