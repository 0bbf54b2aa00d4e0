/-
  Texts that the laws of this seat lean on, one behind the other.
-/
import Derived.Test.YtjcomlklmfeimaaGreatDoorMrgE
import Derived.Test.YtjcomlklmfeimaaGreatDoorMrgF
import Derived.Test.YtjcomlklmfeimaaGreatDoorMrgG
import Derived.Test.YtjcomlklmfeimaaGreatDoorMrgQ
import Derived.Deep.RegionHeld3
import Derived.Test.YtjcomlklmfeimaaGreatDoorMrgI
/-
  Contracts of package fields' proper and Parse.
-/
section
namespace Go.Proofs.YtjcomlklmfeimaaGreatDoor
open Go.RowKit
set_option linter.unusedSimpArgs false

/-! ### One operation of a region that draws, taken by hand: one that is wanted, one that is not -/
theorem take_yes {P : Program} {ops : Array Oper} {Q : Exit → Act → World → Prop} {md : Region.Mode} {S : World → Prop} {i d : Nat} {oi : Oper} {v : Value} {fuel : Nat} {listed : Array Bool} {a : Act} {w : World} (hi : ops[i]? = some oi) (hd : oi.dst = some d)
    (hs : Region.noSelect ops = true) (hf : Region.free md ops listed i = true) (hr : (Region.ready md ops listed).contains i = true)
    (hw : Region.wanted oi (yielded ops a.tmps) = true) (hQ : ∀ c a w, Q (.panic c) (a.put oi.dst v) w → Q (.panic c) a w) (hy : ∀ w, S w → (execOp a.eval oi).run P w = .ok (.value v) w) (hS : S w)
    (h : wpAnyH P md ops Q S fuel (listed.setIfInBounds i true) (a.put (some d) v) w) : wpAnyH P md ops Q S (fuel + 1) listed a w :=
  wpAnyH_take hi hs hf hr hQ (.inl ⟨hw, hy⟩) hS (by rw [hd]; exact h)
theorem take_not {P : Program} {ops : Array Oper} {Q : Exit → Act → World → Prop} {md : Region.Mode} {S : World → Prop} {i d : Nat} {oi : Oper} {fuel : Nat} {listed : Array Bool} {a : Act} {w : World} (hi : ops[i]? = some oi) (hd : oi.dst = some d)
    (hs : Region.noSelect ops = true) (hf : Region.free md ops listed i = true) (hr : (Region.ready md ops listed).contains i = true)
    (hw : Region.wanted oi (yielded ops a.tmps) = false) (hQ : ∀ c a w, Q (.panic c) (a.put oi.dst undef) w → Q (.panic c) a w) (hS : S w)
    (h : wpAnyH P md ops Q S fuel (listed.setIfInBounds i true) (a.put (some d) undef) w) : wpAnyH P md ops Q S (fuel + 1) listed a w :=
  wpAnyH_take hi hs hf hr hQ (.inr ⟨hw, rfl⟩) hS (by rw [hd]; exact h)

set_option maxHeartbeats 16000000 in
set_option maxRecDepth 100000 in
theorem proper_any (x : Fd) (hz1 : x.1.size ≤ maxLen) (hz2 : x.2.size ≤ maxLen) (w : World) :
    Calls Tryz.prog 100 #[fdV x] w fun e w' => e = .returned (.bool (prpF x)) ∧ Below w.heap.size w w' := by
  obtain ⟨a, b⟩ := x
  have hD : prpF (a, b) = (((!a.toList.isEmpty && allB tokB a.data.toList) && allB txtB b.data.toList) && ((mkS (trimL b.data.toList)).toList == b.toList)) := rfl
  have ct := fun W => isToken_any a W hz1
  have cx := fun W => isText_any b W hz2
  have cm := fun W => trim_any b W hz2
  rw [hD]
  clear hD
  generalize (!a.toList.isEmpty && allB tokB a.data.toList) = T at *
  generalize allB txtB b.data.toList = X at *
  generalize mkS (trimL b.data.toList) = S at *
  have CT := Lib.hid ct
  have CX := Lib.hid cx
  have CM := Lib.hid cm
  clear ct cx cm hz1 hz2
  have hb : Below w.heap.size w (w.alloc (.cells #[.string a, .string b] 105)).drew := ((Below.refl _ _).alloc (Nat.le_refl _) _).drew
  have HA : Hid ((w.alloc (.cells #[.string a, .string b] 105)).drew.heap[w.heap.size]? = some (.cells #[.string a, .string b] 105 (0, 0))) := heap_alloc_new w _
  unfold fdV
  have both : ∀ t : Bool, t = true ∨ t = false := fun t => by cases t <;> simp
  rcases both T with rfl | rfl
  · rcases both X with rfl | rfl
    · rcases both (S.toList == b.toList) with hS | hS
      all_goals
        go_enter Tryz.func100, Tryz.ntmps100
        go_wp2_with fail
        go_region_held3 (fun W => W.cell? ⟨w.heap.size, 0, none⟩ = some (.string a) ∧ W.cell? ⟨w.heap.size, 1, none⟩ = some (.string b)) (exact zero_two HA.out) (first
          | (go_at_call 63; refine (CT.out _).mono ?_; rintro e v1 ⟨rfl, hb'⟩; have HA := Lib.hid (zero_still hb' HA.out); have hb := below_then hb hb'; clear hb')
          | (go_at_call 113; refine (CX.out _).mono ?_; rintro e v2 ⟨rfl, hb'⟩; have HA := Lib.hid (zero_still hb' HA.out); have hb := below_then hb hb'; clear hb')
          | (go_at_call 99; refine (CM.out _).mono ?_; rintro e v3 ⟨rfl, hb'⟩; have HA := Lib.hid (zero_still hb' HA.out); have hb := below_then hb hb'; clear hb'))
        go_wp2_with fail
        go_ret
        exact ⟨by simp [hS], hb⟩
    · skip
      go_enter Tryz.func100, Tryz.ntmps100
      go_wp2_with fail
      refine wp_region_held_drew (S := fun W => W.cell? ⟨w.heap.size, 0, none⟩ = some (.string a) ∧ W.cell? ⟨w.heap.size, 1, none⟩ = some (.string b)) (by kernel_rfl) (zero_two HA.out) (fun hHeld => ?_)
      refine take_yes (i := 0) (v := ?_) rfl rfl (by kernel_rfl) (by kernel_rfl) (by kernel_rfl) (by rfl) (fun _ _ _ h => h) ?y7 (by assumption) ?r7
      case y7 => (intro w hSw; (try dsimp only at hSw); go_simp; try with_reducible rfl)
      try simp only [Act.put, List.setIfInBounds_toArray, List.set_cons_zero, List.set_cons_succ]
      refine take_yes (i := 1) (v := ?_) rfl rfl (by kernel_rfl) (by kernel_rfl) (by kernel_rfl) (by rfl) (fun _ _ _ h => h) ?y8 (by assumption) ?r8
      case y8 => (intro w hSw; (try dsimp only at hSw); go_simp; try with_reducible rfl)
      try simp only [Act.put, List.setIfInBounds_toArray, List.set_cons_zero, List.set_cons_succ]
      refine wpAnyH_ready (rs := [2]) (by kernel_rfl) (by simp) (AllReadyH.cons rfl (fun K hK => ?_) AllReadyH.nil)
      go_simp
      go_at_call 63
      refine (CT.out _).mono ?_
      rintro e v1 ⟨rfl, hb'⟩
      have HA := Lib.hid (zero_still hb' HA.out)
      have hb := below_then hb hb'
      clear hb'
      go_wp2_with fail
      refine hK.out _ _ (zero_two HA.out) (fun hHeld => ?_)
      clear hK
      try simp only [Act.put, List.setIfInBounds_toArray, List.set_cons_zero, List.set_cons_succ]
      refine take_yes (i := 3) (v := ?_) rfl rfl (by kernel_rfl) (by kernel_rfl) (by kernel_rfl) (by rfl) (fun _ _ _ h => h) ?y9 (by assumption) ?r9
      case y9 => (intro w hSw; (try dsimp only at hSw); go_simp; try with_reducible rfl)
      try simp only [Act.put, List.setIfInBounds_toArray, List.set_cons_zero, List.set_cons_succ]
      refine take_yes (i := 4) (v := ?_) rfl rfl (by kernel_rfl) (by kernel_rfl) (by kernel_rfl) (by rfl) (fun _ _ _ h => h) ?y10 (by assumption) ?r10
      case y10 => (intro w hSw; (try dsimp only at hSw); go_simp; try with_reducible rfl)
      try simp only [Act.put, List.setIfInBounds_toArray, List.set_cons_zero, List.set_cons_succ]
      refine take_yes (i := 5) (v := ?_) rfl rfl (by kernel_rfl) (by kernel_rfl) (by kernel_rfl) (by rfl) (fun _ _ _ h => h) ?y11 (by assumption) ?r11
      case y11 => (intro w hSw; (try dsimp only at hSw); go_simp; try with_reducible rfl)
      try simp only [Act.put, List.setIfInBounds_toArray, List.set_cons_zero, List.set_cons_succ]
      refine wpAnyH_ready (rs := [6]) (by kernel_rfl) (by simp) (AllReadyH.cons rfl (fun K hK => ?_) AllReadyH.nil)
      go_simp
      go_at_call 113
      refine (CX.out _).mono ?_
      rintro e v2 ⟨rfl, hb'⟩
      have HA := Lib.hid (zero_still hb' HA.out)
      have hb := below_then hb hb'
      clear hb'
      go_wp2_with fail
      refine hK.out _ _ (zero_two HA.out) (fun hHeld => ?_)
      clear hK
      try simp only [Act.put, List.setIfInBounds_toArray, List.set_cons_zero, List.set_cons_succ]
      refine take_yes (i := 7) (v := ?_) rfl rfl (by kernel_rfl) (by kernel_rfl) (by kernel_rfl) (by rfl) (fun _ _ _ h => h) ?y12 (by assumption) ?r12
      case y12 => (intro w hSw; (try dsimp only at hSw); go_simp; try with_reducible rfl)
      try simp only [Act.put, List.setIfInBounds_toArray, List.set_cons_zero, List.set_cons_succ]
      refine take_yes (i := 8) (v := ?_) rfl rfl (by kernel_rfl) (by kernel_rfl) (by kernel_rfl) (by rfl) (fun _ _ _ h => h) ?y13 (by assumption) ?r13
      case y13 => (intro w hSw; (try dsimp only at hSw); go_simp; try with_reducible rfl)
      try simp only [Act.put, List.setIfInBounds_toArray, List.set_cons_zero, List.set_cons_succ]
      refine take_not (i := 9) rfl rfl (by kernel_rfl) (by kernel_rfl) (by kernel_rfl) (by rfl) (fun _ _ _ h => h) (by assumption) ?_
      try simp only [Act.put, List.setIfInBounds_toArray, List.set_cons_zero, List.set_cons_succ]
      refine take_not (i := 10) rfl rfl (by kernel_rfl) (by kernel_rfl) (by kernel_rfl) (by rfl) (fun _ _ _ h => h) (by assumption) ?_
      try simp only [Act.put, List.setIfInBounds_toArray, List.set_cons_zero, List.set_cons_succ]
      refine take_not (i := 11) rfl rfl (by kernel_rfl) (by kernel_rfl) (by kernel_rfl) (by rfl) (fun _ _ _ h => h) (by assumption) ?_
      try simp only [Act.put, List.setIfInBounds_toArray, List.set_cons_zero, List.set_cons_succ]
      refine take_not (i := 12) rfl rfl (by kernel_rfl) (by kernel_rfl) (by kernel_rfl) (by rfl) (fun _ _ _ h => h) (by assumption) ?_
      try simp only [Act.put, List.setIfInBounds_toArray, List.set_cons_zero, List.set_cons_succ]
      refine take_not (i := 13) rfl rfl (by kernel_rfl) (by kernel_rfl) (by kernel_rfl) (by rfl) (fun _ _ _ h => h) (by assumption) ?_
      try simp only [Act.put, List.setIfInBounds_toArray, List.set_cons_zero, List.set_cons_succ]
      refine take_not (i := 14) rfl rfl (by kernel_rfl) (by kernel_rfl) (by kernel_rfl) (by rfl) (fun _ _ _ h => h) (by assumption) ?_
      try simp only [Act.put, List.setIfInBounds_toArray, List.set_cons_zero, List.set_cons_succ]
      refine take_yes (i := 15) (v := ?_) rfl rfl (by kernel_rfl) (by kernel_rfl) (by kernel_rfl) (by rfl) (fun _ _ _ h => h) ?y14 (by assumption) ?r14
      case y14 => (intro w hSw; (try dsimp only at hSw); go_simp; try with_reducible rfl)
      try simp only [Act.put, List.setIfInBounds_toArray, List.set_cons_zero, List.set_cons_succ]
      refine wpAnyH_ready (rs := [16]) (by kernel_rfl) (by simp) (AllReadyH.cons rfl (fun K hK => ?_) AllReadyH.nil)
      go_simp
      refine hK.out _ _ hHeld (fun hHeld2 => ?_)
      clear hK
      refine wpAnyH_done (by kernel_rfl) ?_ _
      go_wp2_with fail
      go_ret
      exact ⟨by simp, hb⟩
  · skip
    go_enter Tryz.func100, Tryz.ntmps100
    go_wp2_with fail
    refine wp_region_held_drew (S := fun W => W.cell? ⟨w.heap.size, 0, none⟩ = some (.string a) ∧ W.cell? ⟨w.heap.size, 1, none⟩ = some (.string b)) (by kernel_rfl) (zero_two HA.out) (fun hHeld => ?_)
    refine take_yes (i := 0) (v := ?_) rfl rfl (by kernel_rfl) (by kernel_rfl) (by kernel_rfl) (by rfl) (fun _ _ _ h => h) ?y1 (by assumption) ?r1
    case y1 => (intro w hSw; (try dsimp only at hSw); go_simp; try with_reducible rfl)
    try simp only [Act.put, List.setIfInBounds_toArray, List.set_cons_zero, List.set_cons_succ]
    refine take_yes (i := 1) (v := ?_) rfl rfl (by kernel_rfl) (by kernel_rfl) (by kernel_rfl) (by rfl) (fun _ _ _ h => h) ?y2 (by assumption) ?r2
    case y2 => (intro w hSw; (try dsimp only at hSw); go_simp; try with_reducible rfl)
    try simp only [Act.put, List.setIfInBounds_toArray, List.set_cons_zero, List.set_cons_succ]
    refine wpAnyH_ready (rs := [2]) (by kernel_rfl) (by simp) (AllReadyH.cons rfl (fun K hK => ?_) AllReadyH.nil)
    go_simp
    go_at_call 63
    refine (CT.out _).mono ?_
    rintro e v1 ⟨rfl, hb'⟩
    have HA := Lib.hid (zero_still hb' HA.out)
    have hb := below_then hb hb'
    clear hb'
    go_wp2_with fail
    refine hK.out _ _ (zero_two HA.out) (fun hHeld => ?_)
    clear hK
    try simp only [Act.put, List.setIfInBounds_toArray, List.set_cons_zero, List.set_cons_succ]
    refine take_yes (i := 3) (v := ?_) rfl rfl (by kernel_rfl) (by kernel_rfl) (by kernel_rfl) (by rfl) (fun _ _ _ h => h) ?y3 (by assumption) ?r3
    case y3 => (intro w hSw; (try dsimp only at hSw); go_simp; try with_reducible rfl)
    try simp only [Act.put, List.setIfInBounds_toArray, List.set_cons_zero, List.set_cons_succ]
    refine take_not (i := 4) rfl rfl (by kernel_rfl) (by kernel_rfl) (by kernel_rfl) (by rfl) (fun _ _ _ h => h) (by assumption) ?_
    try simp only [Act.put, List.setIfInBounds_toArray, List.set_cons_zero, List.set_cons_succ]
    refine take_not (i := 5) rfl rfl (by kernel_rfl) (by kernel_rfl) (by kernel_rfl) (by rfl) (fun _ _ _ h => h) (by assumption) ?_
    try simp only [Act.put, List.setIfInBounds_toArray, List.set_cons_zero, List.set_cons_succ]
    refine take_not (i := 6) rfl rfl (by kernel_rfl) (by kernel_rfl) (by kernel_rfl) (by rfl) (fun _ _ _ h => h) (by assumption) ?_
    try simp only [Act.put, List.setIfInBounds_toArray, List.set_cons_zero, List.set_cons_succ]
    refine take_yes (i := 7) (v := ?_) rfl rfl (by kernel_rfl) (by kernel_rfl) (by kernel_rfl) (by rfl) (fun _ _ _ h => h) ?y4 (by assumption) ?r4
    case y4 => (intro w hSw; (try dsimp only at hSw); go_simp; try with_reducible rfl)
    try simp only [Act.put, List.setIfInBounds_toArray, List.set_cons_zero, List.set_cons_succ]
    refine take_yes (i := 8) (v := ?_) rfl rfl (by kernel_rfl) (by kernel_rfl) (by kernel_rfl) (by rfl) (fun _ _ _ h => h) ?y5 (by assumption) ?r5
    case y5 => (intro w hSw; (try dsimp only at hSw); go_simp; try with_reducible rfl)
    try simp only [Act.put, List.setIfInBounds_toArray, List.set_cons_zero, List.set_cons_succ]
    refine take_not (i := 9) rfl rfl (by kernel_rfl) (by kernel_rfl) (by kernel_rfl) (by rfl) (fun _ _ _ h => h) (by assumption) ?_
    try simp only [Act.put, List.setIfInBounds_toArray, List.set_cons_zero, List.set_cons_succ]
    refine take_not (i := 10) rfl rfl (by kernel_rfl) (by kernel_rfl) (by kernel_rfl) (by rfl) (fun _ _ _ h => h) (by assumption) ?_
    try simp only [Act.put, List.setIfInBounds_toArray, List.set_cons_zero, List.set_cons_succ]
    refine take_not (i := 11) rfl rfl (by kernel_rfl) (by kernel_rfl) (by kernel_rfl) (by rfl) (fun _ _ _ h => h) (by assumption) ?_
    try simp only [Act.put, List.setIfInBounds_toArray, List.set_cons_zero, List.set_cons_succ]
    refine take_not (i := 12) rfl rfl (by kernel_rfl) (by kernel_rfl) (by kernel_rfl) (by rfl) (fun _ _ _ h => h) (by assumption) ?_
    try simp only [Act.put, List.setIfInBounds_toArray, List.set_cons_zero, List.set_cons_succ]
    refine take_not (i := 13) rfl rfl (by kernel_rfl) (by kernel_rfl) (by kernel_rfl) (by rfl) (fun _ _ _ h => h) (by assumption) ?_
    try simp only [Act.put, List.setIfInBounds_toArray, List.set_cons_zero, List.set_cons_succ]
    refine take_not (i := 14) rfl rfl (by kernel_rfl) (by kernel_rfl) (by kernel_rfl) (by rfl) (fun _ _ _ h => h) (by assumption) ?_
    try simp only [Act.put, List.setIfInBounds_toArray, List.set_cons_zero, List.set_cons_succ]
    refine take_yes (i := 15) (v := ?_) rfl rfl (by kernel_rfl) (by kernel_rfl) (by kernel_rfl) (by rfl) (fun _ _ _ h => h) ?y6 (by assumption) ?r6
    case y6 => (intro w hSw; (try dsimp only at hSw); go_simp; try with_reducible rfl)
    try simp only [Act.put, List.setIfInBounds_toArray, List.set_cons_zero, List.set_cons_succ]
    refine wpAnyH_ready (rs := [16]) (by kernel_rfl) (by simp) (AllReadyH.cons rfl (fun K hK => ?_) AllReadyH.nil)
    go_simp
    refine hK.out _ _ hHeld (fun hHeld2 => ?_)
    clear hK
    refine wpAnyH_done (by kernel_rfl) ?_ _
    go_wp2_with fail
    go_ret
    exact ⟨by simp, hb⟩

set_option maxHeartbeats 4000000 in
set_option maxRecDepth 100000 in
theorem parse_any (s : ByteArray) (w : World) (hs : s.size ≤ maxLen) :
    Calls Tryz.prog 65 #[.string s] w fun e w' => e = .returned (.tuple #[fdV (flF s), .int .i64 (flX s)]) ∧ Below w.heap.size w w' := by
  have hz0 : (w.alloc (.cells #[.string ⟨#[]⟩, .string ⟨#[]⟩] 105)).heap[w.heap.size]? = some (.cells #[.string ⟨#[]⟩, .string ⟨#[]⟩] 105 (0, 0)) := heap_alloc_new w _
  have hb0 : Below w.heap.size w (w.alloc (.cells #[.string ⟨#[]⟩, .string ⟨#[]⟩] 105)) := (Below.refl _ _).alloc (Nat.le_refl _) _
  have HZ := Lib.hid hz0
  have HB := Lib.hid hb0
  by_cases hl : 8192 < s.size
  · have HR := Lib.hid (fl_long hl)
    have hl' : (8192 : Int) < (s.size : Int) := by omega
    clear hz0 hb0 hl
    go_enter Tryz.func65, Tryz.ntmps65
    go_wp2_with fail
    refine bodyPost_ret (results_cell_row_tmp rfl _ _ w.heap.size 105 #[.string ⟨#[]⟩, .string ⟨#[]⟩] (0, 0) _ rfl HZ.out Tryz.underlying105 rfl (by kernel_rfl)) rfl ?_
    exact ⟨by rw [HR.out.1, HR.out.2]; rfl, HB.out⟩
  · have hl' : ¬ (8192 : Int) < (s.size : Int) := by omega
    have cc := fun W => cut_any s 58 W hs (by decide) (by decide)
    have hZs : (cutZ s 58).size ≤ maxLen := Nat.le_trans (flZ_le s 58) hs
    have ct := fun W => trim_any (cutZ s 58) W hZs
    have cp := fun W => proper_any (flT s) (Nat.le_trans (flT_le s).1 hs) (Nat.le_trans (flT_le s).2 hs) W
    have hno := fun h => fl_no (s := s) hl h
    have hye := fun h => fl_yes (s := s) hl h
    have hpr := fl_prp s
    have hT : flT s = (cutA s 58, mkS (trimL (cutZ s 58).data.toList)) := rfl
    rw [hT] at cp hye hpr
    unfold fdV at cp
    generalize cutA s 58 = a at *
    generalize mkS (trimL (cutZ s 58).data.toList) = b at *
    generalize cutZ s 58 = z at *
    generalize cutOk s 58 = ok at *
    generalize prpF (a, b) = pr at *
    have CC := Lib.hid cc
    have CT := Lib.hid ct
    have CP := Lib.hid cp
    clear cc ct cp hT hZs hl hz0 hb0
    cases ok
    · have HR := Lib.hid (hno (by rw [← hpr]; rfl))
      clear hno hye hpr
      go_enter Tryz.func65, Tryz.ntmps65
      go_wp2_with fail
      refine (CC.out _).mono ?_
      rintro e w1 ⟨rfl, hb1⟩
      have HZ1 := Lib.hid (zero_still hb1 HZ.out)
      have HB1 := Lib.hid (below_then HB.out hb1)
      clear hb1
      go_wp2_with fail
      refine (CT.out _).mono ?_
      rintro e w2 ⟨rfl, hb2⟩
      have HZ2 := Lib.hid (zero_still hb2 HZ1.out)
      have HZ3 := Lib.hid (zero_more (o' := .cells #[.string a, .string b] 105) HZ2.out)
      have HB2 := Lib.hid ((below_then HB1.out hb2).alloc (below_then HB1.out hb2).size (.cells #[.string a, .string b] 105))
      obtain ⟨z0, z1, y0, y1⟩ := fd_cells HZ3.out
      clear hb2
      go_wp2_with fail
      refine bodyPost_ret (results_cell_row_tmp rfl _ _ w.heap.size 105 #[.string ⟨#[]⟩, .string ⟨#[]⟩] (0, 0) _ rfl (fd_set HZ3.out) Tryz.underlying105 rfl (by kernel_rfl)) rfl ?_
      exact ⟨by rw [HR.out.1, HR.out.2]; rfl, below_set2 HB2.out (Nat.le_refl _)⟩
    · cases pr
      · have HR := Lib.hid (hno (by rw [← hpr]; rfl))
        clear hno hye hpr
        go_enter Tryz.func65, Tryz.ntmps65
        go_wp2_with fail
        refine (CC.out _).mono ?_
        rintro e w1 ⟨rfl, hb1⟩
        have HZ1 := Lib.hid (zero_still hb1 HZ.out)
        have HB1 := Lib.hid (below_then HB.out hb1)
        clear hb1
        go_wp2_with fail
        refine (CT.out _).mono ?_
        rintro e w2 ⟨rfl, hb2⟩
        have HZ2 := Lib.hid (zero_still hb2 HZ1.out)
        have HZ3 := Lib.hid (zero_more (o' := .cells #[.string a, .string b] 105) HZ2.out)
        have HB2 := Lib.hid ((below_then HB1.out hb2).alloc (below_then HB1.out hb2).size (.cells #[.string a, .string b] 105))
        clear hb2
        go_wp2_with fail
        refine (CP.out _).mono ?_
        rintro e w3 ⟨rfl, hb3⟩
        have HZ4 := Lib.hid (zero_still hb3 HZ3.out)
        have HB3 := Lib.hid (below_then HB2.out hb3)
        obtain ⟨z0, z1, y0, y1⟩ := fd_cells HZ4.out
        clear hb3
        go_wp2_with fail
        refine bodyPost_ret (results_cell_row_tmp rfl _ _ w.heap.size 105 #[.string ⟨#[]⟩, .string ⟨#[]⟩] (0, 0) _ rfl (fd_set HZ4.out) Tryz.underlying105 rfl (by kernel_rfl)) rfl ?_
        exact ⟨by rw [HR.out.1, HR.out.2]; rfl, below_set2 HB3.out (Nat.le_refl _)⟩
      · have HR := Lib.hid (hye (by rw [← hpr]; rfl))
        clear hno hye hpr
        go_enter Tryz.func65, Tryz.ntmps65
        go_wp2_with fail
        refine (CC.out _).mono ?_
        rintro e w1 ⟨rfl, hb1⟩
        have HZ1 := Lib.hid (zero_still hb1 HZ.out)
        have HB1 := Lib.hid (below_then HB.out hb1)
        clear hb1
        go_wp2_with fail
        refine (CT.out _).mono ?_
        rintro e w2 ⟨rfl, hb2⟩
        have HZ2 := Lib.hid (zero_still hb2 HZ1.out)
        have HZ3 := Lib.hid (zero_more (o' := .cells #[.string a, .string b] 105) HZ2.out)
        have HV3 := Lib.hid (heap_alloc_new w2 (.cells #[.string a, .string b] 105))
        have HB2 := Lib.hid ((below_then HB1.out hb2).alloc (below_then HB1.out hb2).size (.cells #[.string a, .string b] 105))
        clear hb2
        go_wp2_with fail
        refine (CP.out _).mono ?_
        rintro e w3 ⟨rfl, hb3⟩
        have HZ4 := Lib.hid (zero_still hb3 HZ3.out)
        have HB3 := Lib.hid (below_then HB2.out hb3)
        obtain ⟨z0, z1, y0, y1⟩ := fd_cells HZ4.out
        obtain ⟨v0, v1⟩ := zero_two (zero_still hb3 HV3.out)
        clear hb3
        go_wp2_with fail
        refine bodyPost_ret (results_cell_row_tmp rfl _ _ w.heap.size 105 #[.string a, .string b] (0, 0) _ rfl (fd_set HZ4.out) Tryz.underlying105 rfl (by kernel_rfl)) rfl ?_
        exact ⟨by rw [HR.out.1, HR.out.2]; rfl, below_set2 HB3.out (Nat.le_refl _)⟩

end Go.Proofs.YtjcomlklmfeimaaGreatDoor
end

/-
  Contract of the reference's Parse (layer 9).
-/
section
namespace Go.Proofs.YtjcomlklmfeimaaGreatDoor
open Go.RowKit

set_option maxHeartbeats 4000000 in
set_option maxRecDepth 100000 in
theorem rf_parse (s : ByteArray) (w : World) (hs : s.size ≤ maxLen) :
    Calls Tryz.prog 73 #[.string s] w fun e w' => e = .returned (.tuple #[fdV (flF s), .int .i64 (flX s)]) ∧ Below w.heap.size w w' := by
  have hz0 : (w.alloc (.cells #[.string ⟨#[]⟩, .string ⟨#[]⟩] 105)).heap[w.heap.size]? = some (.cells #[.string ⟨#[]⟩, .string ⟨#[]⟩] 105 (0, 0)) := heap_alloc_new w _
  have hb0 : Below w.heap.size w (w.alloc (.cells #[.string ⟨#[]⟩, .string ⟨#[]⟩] 105)) := (Below.refl _ _).alloc (Nat.le_refl _) _
  have HZ := Lib.hid hz0
  have HB := Lib.hid hb0
  by_cases hl : 8192 < s.size
  · have HR := Lib.hid (fl_long hl)
    have hl' : (8192 : Int) < (s.size : Int) := by omega
    clear hz0 hb0 hl
    go_enter Tryz.func73, Tryz.ntmps73
    go_wp2_with fail
    refine bodyPost_ret (results_cell_row_tmp rfl _ _ w.heap.size 105 #[.string ⟨#[]⟩, .string ⟨#[]⟩] (0, 0) _ rfl HZ.out Tryz.underlying105 rfl (by kernel_rfl)) rfl ?_
    exact ⟨by rw [HR.out.1, HR.out.2]; rfl, HB.out⟩
  · have hl' : ¬ (8192 : Int) < (s.size : Int) := by omega
    have cc := fun W => r_cut s 58 W hs (by decide) (by decide)
    have hZs : (cutZ s 58).size ≤ maxLen := Nat.le_trans (flZ_le s 58) hs
    have ct := fun W => r_trim (cutZ s 58) W hZs
    have ck := fun W => r_isToken (flT s).1 W (Nat.le_trans (flT_le s).1 hs)
    have cx := fun W => r_isText (flT s).2 W (Nat.le_trans (flT_le s).2 hs)
    have hno := fun h => fl_no (s := s) hl h
    have hye := fun h => fl_yes (s := s) hl h
    have hT : flT s = (cutA s 58, mkS (trimL (cutZ s 58).data.toList)) := rfl
    have hO : flO s = (cutOk s 58 && ((!(flT s).1.toList.isEmpty && allB tokB (flT s).1.data.toList) && allB txtB (flT s).2.data.toList)) := rfl
    rw [hT] at ck cx hye hO
    generalize cutA s 58 = a at *
    generalize mkS (trimL (cutZ s 58).data.toList) = b at *
    generalize cutZ s 58 = z at *
    generalize cutOk s 58 = ok at *
    simp only at ck cx hO
    generalize (!a.toList.isEmpty && allB tokB a.data.toList) = tk at *
    generalize allB txtB b.data.toList = tx at *
    have CC := Lib.hid cc
    have CT := Lib.hid ct
    have CK := Lib.hid ck
    have CX := Lib.hid cx
    clear cc ct ck cx hT hZs hl hz0 hb0
    cases ok
    · have HR := Lib.hid (hno (by rw [hO]; rfl))
      clear hno hye hO
      go_enter Tryz.func73, Tryz.ntmps73
      go_wp2_with fail
      refine (CC.out _).mono ?_
      rintro e w1 ⟨rfl, hb1⟩
      have HZ1 := Lib.hid (zero_still hb1 HZ.out)
      have HB1 := Lib.hid (below_then HB.out hb1)
      obtain ⟨z0, z1, y0, y1⟩ := fd_cells HZ1.out
      clear hb1
      go_wp2_with fail
      refine (CT.out _).mono ?_
      rintro e w2 ⟨rfl, rfl⟩
      go_wp2_with fail
      refine bodyPost_ret (results_cell_row_tmp rfl _ _ w.heap.size 105 #[.string ⟨#[]⟩, .string ⟨#[]⟩] (0, 0) _ rfl (fd_set HZ1.out) Tryz.underlying105 rfl (by kernel_rfl)) rfl ?_
      exact ⟨by rw [HR.out.1, HR.out.2]; rfl, below_set2 HB1.out (Nat.le_refl _)⟩
    · cases tk
      · have HR := Lib.hid (hno (by rw [hO]; rfl))
        clear hno hye hO
        go_enter Tryz.func73, Tryz.ntmps73
        go_wp2_with fail
        refine (CC.out _).mono ?_
        rintro e w1 ⟨rfl, hb1⟩
        have HZ1 := Lib.hid (zero_still hb1 HZ.out)
        have HB1 := Lib.hid (below_then HB.out hb1)
        obtain ⟨z0, z1, y0, y1⟩ := fd_cells HZ1.out
        clear hb1
        go_wp2_with fail
        refine (CT.out _).mono ?_
        rintro e w2 ⟨rfl, rfl⟩
        go_wp2_with fail
        refine (CK.out _).mono ?_
        rintro e w2 ⟨rfl, rfl⟩
        go_wp2_with fail
        refine bodyPost_ret (results_cell_row_tmp rfl _ _ w.heap.size 105 #[.string ⟨#[]⟩, .string ⟨#[]⟩] (0, 0) _ rfl (fd_set HZ1.out) Tryz.underlying105 rfl (by kernel_rfl)) rfl ?_
        exact ⟨by rw [HR.out.1, HR.out.2]; rfl, below_set2 HB1.out (Nat.le_refl _)⟩
      · cases tx
        · have HR := Lib.hid (hno (by rw [hO]; rfl))
          clear hno hye hO
          go_enter Tryz.func73, Tryz.ntmps73
          go_wp2_with fail
          refine (CC.out _).mono ?_
          rintro e w1 ⟨rfl, hb1⟩
          have HZ1 := Lib.hid (zero_still hb1 HZ.out)
          have HB1 := Lib.hid (below_then HB.out hb1)
          obtain ⟨z0, z1, y0, y1⟩ := fd_cells HZ1.out
          clear hb1
          go_wp2_with fail
          refine (CT.out _).mono ?_
          rintro e w2 ⟨rfl, rfl⟩
          go_wp2_with fail
          refine (CK.out _).mono ?_
          rintro e w2 ⟨rfl, rfl⟩
          go_wp2_with fail
          refine (CX.out _).mono ?_
          rintro e w2 ⟨rfl, rfl⟩
          go_wp2_with fail
          refine bodyPost_ret (results_cell_row_tmp rfl _ _ w.heap.size 105 #[.string ⟨#[]⟩, .string ⟨#[]⟩] (0, 0) _ rfl (fd_set HZ1.out) Tryz.underlying105 rfl (by kernel_rfl)) rfl ?_
          exact ⟨by rw [HR.out.1, HR.out.2]; rfl, below_set2 HB1.out (Nat.le_refl _)⟩
        · have HR := Lib.hid (hye (by rw [hO]; rfl))
          clear hno hye hO
          go_enter Tryz.func73, Tryz.ntmps73
          go_wp2_with fail
          refine (CC.out _).mono ?_
          rintro e w1 ⟨rfl, hb1⟩
          have HZ1 := Lib.hid (zero_still hb1 HZ.out)
          have HB1 := Lib.hid (below_then HB.out hb1)
          obtain ⟨z0, z1, y0, y1⟩ := fd_cells HZ1.out
          clear hb1
          go_wp2_with fail
          refine (CT.out _).mono ?_
          rintro e w2 ⟨rfl, rfl⟩
          go_wp2_with fail
          refine (CK.out _).mono ?_
          rintro e w2 ⟨rfl, rfl⟩
          go_wp2_with fail
          refine (CX.out _).mono ?_
          rintro e w2 ⟨rfl, rfl⟩
          go_wp2_with fail
          refine bodyPost_ret (results_cell_row_tmp rfl _ _ w.heap.size 105 #[.string a, .string b] (0, 0) _ rfl (fd_set HZ1.out) Tryz.underlying105 rfl (by kernel_rfl)) rfl ?_
          exact ⟨by rw [HR.out.1, HR.out.2]; rfl, below_set2 HB1.out (Nat.le_refl _)⟩

end Go.Proofs.YtjcomlklmfeimaaGreatDoor
end

/-
  Contracts of the reference's end, size (layer 11).
-/
section
namespace Go.Proofs.YtjcomlklmfeimaaGreatDoor
open Go.RowKit

def chL : Value → Nat | .string t => t.size | _ => 0
theorem r_end (s : ByteArray) (at0 : Nat) (w : World) (hs : s.size ≤ 1000000000) (hat : at0 ≤ s.size) :
    Calls Tryz.prog 109 #[.string s, .int .i64 at0] w fun e w' => e = .returned (.int .i64 (endV s at0)) ∧ w = w' := by
  go_enter Tryz.func109, Tryz.ntmps109
  go_wp2_with fail
  go_loop [5] (fun i => ∃ k : Nat, k ≤ s.size ∧ i = .int .i64 k ∧ Hid (endV s at0 = endV s k)) (fun i => s.size + 1 - (intOf i).toNat)
  case atStart => exact ⟨at0, hat, rfl, rfl⟩
  case round =>
    obtain ⟨k, hk, rfl, hf⟩ := hrel
    by_cases hlt : k + 1 < s.size
    · have hi0 : (0 : Int) ≤ (k : Int) := by omega
      have hi1 : (k : Int) < (s.size : Int) := by omega
      have hi2 : (k : Int) + 1 < (s.size : Int) := by omega
      have hi3 : (0 : Int) ≤ (k : Int) + 1 := by omega
      have hk0 : k < s.size := by omega
      have htn : ((k : Int) + 1).toNat = k + 1 := by omega
      by_cases h1 : (s[k].toNat : Int) = 13
      · by_cases h2 : (s[k + 1].toNat : Int) = 10
        · have e1 : ((s[k].toNat : Int) == 13) = true := by rw [h1]; rfl
          have e2 : ((s[k + 1].toNat : Int) == 10) = true := by rw [h2]; rfl
          have HR : Hid (endV s at0 = k) := by
            show _ = _
            rw [hf.out]
            exact endV_hit s k hlt (by rw [← UInt8.toNat_inj]; show s[k].toNat = 13; omega) (by rw [← UInt8.toNat_inj]; show s[k + 1].toNat = 10; omega)
          clear hf h1 h2
          go_wp2_with fail
          go_ret
          exact ⟨by rw [HR.out]; rfl, rfl⟩
        · have e1 : ((s[k].toNat : Int) == 13) = true := by rw [h1]; rfl
          have e2 : ((s[k + 1].toNat : Int) == 10) = false := by simpa using h2
          have HR : Hid (endV s at0 = endV s (k + 1)) := by
            show _ = _
            rw [hf.out]
            exact endV_step s k hlt (fun h => h2 (by rw [h.2]; rfl))
          clear hf h1 h2
          go_wp2_with fail
          go_round
          case rel => exact ⟨k + 1, by omega, by go_num, HR⟩
          case measure => simp [intOf]; omega
      · have e1 : ((s[k].toNat : Int) == 13) = false := by simpa using h1
        have HR : Hid (endV s at0 = endV s (k + 1)) := by
          show _ = _
          rw [hf.out]
          exact endV_step s k hlt (fun h => h1 (by rw [h.1]; rfl))
        clear hf h1
        go_wp2_with fail
        go_round
        case rel => exact ⟨k + 1, by omega, by go_num, HR⟩
        case measure => simp [intOf]; omega
    · have HR : Hid (endV s at0 = -1) := by
        show _ = _
        rw [hf.out]
        exact endV_end s k (by omega)
      have hi2 : ¬ (k : Int) + 1 < (s.size : Int) := by omega
      clear hf
      go_wp2_with fail
      go_ret
      exact ⟨by rw [HR.out]; rfl, rfl⟩

set_option maxHeartbeats 4000000 in
set_option maxRecDepth 100000 in
theorem r_size (s : ByteArray) (w : World) (hs : s.size ≤ 1000000000) :
    Calls Tryz.prog 110 #[.string s] w fun e w' => e = .returned (.tuple #[.int .i64 (szN s), .int .i64 (szE s)]) ∧ Below w.heap.size w w' := by
  have hm : (1000000000 : Nat) ≤ maxLen := by decide
  have hA : (cutA s 59).size ≤ 1000000000 := by
    refine Nat.le_trans ?_ hs
    unfold cutA
    split
    · exact Nat.le_refl _
    · rw [ByteArray.size_extract]; omega
  have hZ : (cutZ s 59).size ≤ maxLen := by
    refine Nat.le_trans ?_ (Nat.le_trans hs hm)
    unfold cutZ
    split
    · exact Nat.zero_le _
    · rw [ByteArray.size_extract]; omega
  have c1 := fun W => r_cut s 59 W (by omega) (by decide) (by decide)
  have c3 := fun W => r_isText (cutZ s 59) W hZ
  have hL : szL s = rdw (cutA s 59).data.toList := rfl
  have hB : szB s = ((numE 16 15 1152921504606846976 (szL s) == 0) && (!cutOk s 59 || allB txtB (cutZ s 59).data.toList)) := rfl
  have hV : szV s = numN 16 15 1152921504606846976 (szL s) := rfl
  have hbad := fun h => sz_bad (s := s) h
  have hbig := fun h g => sz_big (s := s) h g
  have hfin := fun h g => sz_fine (s := s) h g
  generalize szL s = L at *
  generalize szB s = OK at *
  generalize szV s = V at *
  generalize szE s = E at *
  generalize szN s = N at *
  generalize cutA s 59 = A at *
  generalize cutZ s 59 = Z at *
  generalize cutOk s 59 = ok at *
  generalize allB txtB Z.data.toList = tx at *
  have C1 := Lib.hid c1
  have C3 := Lib.hid c3
  have HL := Lib.hid hL
  have HB := Lib.hid hB
  have HV := Lib.hid hV
  have HBAD := Lib.hid hbad
  have HBIG := Lib.hid hbig
  have HFIN := Lib.hid hfin
  clear c1 c3 hL hB hV hbad hbig hfin hZ
  go_enter Tryz.func110, Tryz.ntmps110
  go_wp2_with fail
  refine (C1.out _).mono ?_
  rintro e w1 ⟨rfl, hb1⟩
  have HB1 := Lib.hid hb1
  clear hb1
  go_wp2_with fail
  go_loop [4] (fun d => ∃ D : ByteArray, d = .string D ∧ D.size ≤ 1000000000 ∧ Hid (rdw D.data.toList = L)) (fun d => chL d)
  case atStart => exact ⟨A, rfl, hA, HL.out.symm⟩
  case round =>
    obtain ⟨D, rfl, hD, hf⟩ := hrel
    by_cases hpos : 0 < D.size
    · obtain ⟨j, hj⟩ : ∃ j, D.size = j + 1 := ⟨D.size - 1, by omega⟩
      have HJ := Lib.hid hj
      have hj1 : D.size ≤ j + 1 := by omega
      have hj2 : j + 1 ≤ D.size := by omega
      have hjl : j < D.size := by omega
      by_cases hin2 : blkB (D[j].toNat : Int) = true
      · have HBX : Hid (rdw (D.extract 0 j).data.toList = L) := (rdw_tail D j hj hin2).trans hf.out
        have hix : (D.size : Int) - 1 = (j : Int) := by omega
        by_cases q1 : (D[j].toNat : Int) = 32
        · have e1 : ((D[j].toNat : Int) == 32) = true := by rw [q1]; rfl
          clear hin2 hf hj q1
          go_wp2_with fail
          go_round
          case rel => exact ⟨_, rfl, by simp; omega, HBX⟩
          case measure => simp [chL]; omega
        · have e1 : ((D[j].toNat : Int) == 32) = false := by simpa using q1
          have e2 : ((D[j].toNat : Int) == 9) = true := by
            unfold blkB at hin2
            rw [e1] at hin2
            simpa using hin2
          clear hin2 hf hj q1
          go_wp2_with fail
          go_round
          case rel => exact ⟨_, rfl, by simp; omega, HBX⟩
          case measure => simp [chL]; omega
      · have hin3 : blkB (D[j].toNat : Int) = false := by simpa using hin2
        have DL : Hid (D.data.toList = L) := (rdw_keep D j hj hin3).symm.trans hf.out
        have hix : (D.size : Int) - 1 = (j : Int) := by omega
        obtain ⟨e1, e2⟩ := not_blank hin3
        clear hin2 hin3 hf hj
        have c2 := fun W => r_readHex_any D 1152921504606846976 W (by omega)
        rw [DL.out, ← HV.out] at c2
        obtain ⟨Y, hY⟩ : ∃ Y, Y = numE 16 15 1152921504606846976 L := ⟨_, rfl⟩
        rw [← hY] at c2
        have C2 := Lib.hid c2
        have HB2 : Hid (OK = ((Y == 0) && (!ok || tx))) := by show _ = _; rw [hY]; exact HB.out
        clear c2 hY
        by_cases hY0 : Y = 0
        · subst hY0
          by_cases hV : 65536 < V
          · cases ok
            · have HR := Lib.hid (HBIG.out (by rw [HB2.out]; rfl) hV)
              go_wp2_with fail
              refine (C2.out _).mono ?_
              rintro e u2 ⟨rfl, rfl⟩
              go_wp2_with fail
              go_ret2
              exact ⟨by rw [HR.out.2, HR.out.1]; rfl, HB1.out⟩
            · cases tx
              · have HR := Lib.hid (HBAD.out (by rw [HB2.out]; rfl))
                go_wp2_with fail
                refine (C2.out _).mono ?_
                rintro e u2 ⟨rfl, rfl⟩
                go_wp2_with fail
                refine (C3.out _).mono ?_
                rintro e u3 ⟨rfl, rfl⟩
                go_wp2_with fail
                go_ret2
                exact ⟨by rw [HR.out.2, HR.out.1]; rfl, HB1.out⟩
              · have HR := Lib.hid (HBIG.out (by rw [HB2.out]; rfl) hV)
                go_wp2_with fail
                refine (C2.out _).mono ?_
                rintro e u2 ⟨rfl, rfl⟩
                go_wp2_with fail
                refine (C3.out _).mono ?_
                rintro e u3 ⟨rfl, rfl⟩
                go_wp2_with fail
                go_ret2
                exact ⟨by rw [HR.out.2, HR.out.1]; rfl, HB1.out⟩
          · cases ok
            · have HR := Lib.hid (HFIN.out (by rw [HB2.out]; rfl) (by omega))
              go_wp2_with fail
              refine (C2.out _).mono ?_
              rintro e u2 ⟨rfl, rfl⟩
              go_wp2_with fail
              go_ret2
              exact ⟨by rw [HR.out.2, HR.out.1]; rfl, HB1.out⟩
            · cases tx
              · have HR := Lib.hid (HBAD.out (by rw [HB2.out]; rfl))
                go_wp2_with fail
                refine (C2.out _).mono ?_
                rintro e u2 ⟨rfl, rfl⟩
                go_wp2_with fail
                refine (C3.out _).mono ?_
                rintro e u3 ⟨rfl, rfl⟩
                go_wp2_with fail
                go_ret2
                exact ⟨by rw [HR.out.2, HR.out.1]; rfl, HB1.out⟩
              · have HR := Lib.hid (HFIN.out (by rw [HB2.out]; rfl) (by omega))
                go_wp2_with fail
                refine (C2.out _).mono ?_
                rintro e u2 ⟨rfl, rfl⟩
                go_wp2_with fail
                refine (C3.out _).mono ?_
                rintro e u3 ⟨rfl, rfl⟩
                go_wp2_with fail
                go_ret2
                exact ⟨by rw [HR.out.2, HR.out.1]; rfl, HB1.out⟩
        · have hY1 : (Y == 0) = false := by simpa using hY0
          have hY2 : (Y != 0) = true := by simpa using hY0
          have HR := Lib.hid (HBAD.out (by rw [HB2.out, hY1]; rfl))
          go_wp2_with fail
          refine (C2.out _).mono ?_
          rintro e u2 ⟨rfl, rfl⟩
          go_wp2_with fail
          go_ret2
          exact ⟨by rw [HR.out.2, HR.out.1]; rfl, HB1.out⟩
    · have DL : Hid (D.data.toList = L) := (rdw_empty D (by omega)).symm.trans hf.out
      clear hf
      have c2 := fun W => r_readHex_any D 1152921504606846976 W (by omega)
      rw [DL.out, ← HV.out] at c2
      obtain ⟨Y, hY⟩ : ∃ Y, Y = numE 16 15 1152921504606846976 L := ⟨_, rfl⟩
      rw [← hY] at c2
      have C2 := Lib.hid c2
      have HB2 : Hid (OK = ((Y == 0) && (!ok || tx))) := by show _ = _; rw [hY]; exact HB.out
      clear c2 hY
      by_cases hY0 : Y = 0
      · subst hY0
        by_cases hV : 65536 < V
        · cases ok
          · have HR := Lib.hid (HBIG.out (by rw [HB2.out]; rfl) hV)
            go_wp2_with fail
            refine (C2.out _).mono ?_
            rintro e u2 ⟨rfl, rfl⟩
            go_wp2_with fail
            go_ret2
            exact ⟨by rw [HR.out.2, HR.out.1]; rfl, HB1.out⟩
          · cases tx
            · have HR := Lib.hid (HBAD.out (by rw [HB2.out]; rfl))
              go_wp2_with fail
              refine (C2.out _).mono ?_
              rintro e u2 ⟨rfl, rfl⟩
              go_wp2_with fail
              refine (C3.out _).mono ?_
              rintro e u3 ⟨rfl, rfl⟩
              go_wp2_with fail
              go_ret2
              exact ⟨by rw [HR.out.2, HR.out.1]; rfl, HB1.out⟩
            · have HR := Lib.hid (HBIG.out (by rw [HB2.out]; rfl) hV)
              go_wp2_with fail
              refine (C2.out _).mono ?_
              rintro e u2 ⟨rfl, rfl⟩
              go_wp2_with fail
              refine (C3.out _).mono ?_
              rintro e u3 ⟨rfl, rfl⟩
              go_wp2_with fail
              go_ret2
              exact ⟨by rw [HR.out.2, HR.out.1]; rfl, HB1.out⟩
        · cases ok
          · have HR := Lib.hid (HFIN.out (by rw [HB2.out]; rfl) (by omega))
            go_wp2_with fail
            refine (C2.out _).mono ?_
            rintro e u2 ⟨rfl, rfl⟩
            go_wp2_with fail
            go_ret2
            exact ⟨by rw [HR.out.2, HR.out.1]; rfl, HB1.out⟩
          · cases tx
            · have HR := Lib.hid (HBAD.out (by rw [HB2.out]; rfl))
              go_wp2_with fail
              refine (C2.out _).mono ?_
              rintro e u2 ⟨rfl, rfl⟩
              go_wp2_with fail
              refine (C3.out _).mono ?_
              rintro e u3 ⟨rfl, rfl⟩
              go_wp2_with fail
              go_ret2
              exact ⟨by rw [HR.out.2, HR.out.1]; rfl, HB1.out⟩
            · have HR := Lib.hid (HFIN.out (by rw [HB2.out]; rfl) (by omega))
              go_wp2_with fail
              refine (C2.out _).mono ?_
              rintro e u2 ⟨rfl, rfl⟩
              go_wp2_with fail
              refine (C3.out _).mono ?_
              rintro e u3 ⟨rfl, rfl⟩
              go_wp2_with fail
              go_ret2
              exact ⟨by rw [HR.out.2, HR.out.1]; rfl, HB1.out⟩
      · have hY1 : (Y == 0) = false := by simpa using hY0
        have hY2 : (Y != 0) = true := by simpa using hY0
        have HR := Lib.hid (HBAD.out (by rw [HB2.out, hY1]; rfl))
        go_wp2_with fail
        refine (C2.out _).mono ?_
        rintro e u2 ⟨rfl, rfl⟩
        go_wp2_with fail
        go_ret2
        exact ⟨by rw [HR.out.2, HR.out.1]; rfl, HB1.out⟩

end Go.Proofs.YtjcomlklmfeimaaGreatDoor
end

/-
  Contract of the reference's Decode (layer 11).
-/
section
namespace Go.Proofs.YtjcomlklmfeimaaGreatDoor
open Go.RowKit

set_option maxHeartbeats 16000000 in
set_option maxRecDepth 100000 in
theorem r_decode (s : ByteArray) (w : World) (hs : s.size ≤ 1000000) :
    Calls Tryz.prog 76 #[.string s] w fun e w' => e = .returned (.tuple #[.string (decB s), .int .i64 (decN s), .int .i64 (decE s)]) ∧ Below w.heap.size w w' := by
  have hmm : (1000000000 : Nat) ≤ maxLen := by decide
  have hbad := fun (c : Int) (x y : List UInt8) (h : decD s = (c, x, y)) (hc : c ≠ 0) => dec_bad h hc
  have hok := fun (x y : List UInt8) (h : decD s = (0, x, y)) => dec_ok h
  have hD : decD s = dcd (s.size + 1) [] s.data.toList := rfl
  generalize decD s = D at *
  generalize decB s = DB at *
  generalize decN s = DN at *
  generalize decE s = DE at *
  have HBAD := Lib.hid hbad
  have HOK := Lib.hid hok
  have HD0 := Lib.hid hD
  clear hbad hok hD
  go_enter Tryz.func76, Tryz.ntmps76
  go_wp2_with fail
  go_loopw [5, 6, 7, 8, 9] (fun b a _ _ _ wr => ∃ (k : Nat) (B : ByteArray) (F : Nat), k ≤ s.size ∧ b = .string B ∧ a = .int .i64 k ∧ s.size + 1 ≤ F + k ∧ B.size ≤ 65536 ∧ Hid (D = dcd F B.data.toList (s.data.toList.drop k)) ∧ Below w.heap.size w wr) (fun _ a _ _ _ _ => s.size + 1 - (intOf a).toNat)
  case atStart => exact ⟨0, ⟨#[]⟩, s.size + 1, Nat.zero_le _, rfl, rfl, by omega, by decide, HD0.out, Below.refl _ _⟩
  case round =>
    clear HD0
    obtain ⟨k, B, F, hk, rfl, rfl, hF, hB, hf, hbel⟩ := hrel
    obtain ⟨F', rfl⟩ : ∃ F', F = F' + 1 := ⟨F - 1, by omega⟩
    have HB := Lib.hid hbel
    clear hbel
    cases hln : lineL (s.data.toList.drop k) with
    | none =>
      have HR := Lib.hid (HBAD.out 25 [] (s.data.toList.drop k) (by rw [hf.out, dcd, hln]) (by decide))
      have HV : Hid (endV s k = -1) := by show _ = _; unfold endV; rw [hln]
      clear hf hln
      go_wp2_with fail
      refine (r_end s k _ (by omega) hk).mono ?_
      rw [HV.out]
      rintro e u1 ⟨rfl, rfl⟩
      go_wp2_with fail
      go_ret3
      exact ⟨by rw [HR.out.1, HR.out.2.1, HR.out.2.2]; rfl, HB.out⟩
    | some p =>
      obtain ⟨ln, r⟩ := p
      obtain ⟨g1, g2, g3⟩ := line_at hln hk
      have HV : Hid (endV s k = (k : Int) + ln.length) := by show _ = _; unfold endV; rw [hln]
      have hlz : (mkS ln).size = ln.length := mkS_size ln
      have cz := fun W => r_size (mkS ln) W (by omega)
      have hdc : D = if szE (mkS ln) ≠ 0 then (szE (mkS ln), [], s.data.toList.drop k) else if szN (mkS ln) = 0 then ((trl (r.length + 1) 0 r).1, (if (trl (r.length + 1) 0 r).1 = 0 then B.data.toList else []), (trl (r.length + 1) 0 r).2)
          else if 65536 < (B.data.toList.length : Int) + szN (mkS ln) then (4, [], s.data.toList.drop k)
          else if r.length < (szN (mkS ln)).toNat + 2 ∨ r[(szN (mkS ln)).toNat]? ≠ some 13 ∨ r[(szN (mkS ln)).toNat + 1]? ≠ some 10 then (25, [], s.data.toList.drop k)
          else dcd F' (B.data.toList ++ r.take (szN (mkS ln)).toNat) (r.drop ((szN (mkS ln)).toNat + 2)) := by rw [hf.out, dcd, hln]
      have hnb := szN_le (mkS ln)
      obtain ⟨n, hn⟩ : ∃ n : Nat, szN (mkS ln) = n := ⟨(szN (mkS ln)).toNat, by omega⟩
      rw [hn] at hdc cz hnb
      have hnn : ((n : Int)).toNat = n := by omega
      rw [hnn] at hdc
      generalize szE (mkS ln) = ze at *
      have CZ := Lib.hid cz
      obtain ⟨x, hx⟩ : ∃ x, x = mkS ln := ⟨_, rfl⟩
      rw [← hx] at CZ g2
      have HG2 := Lib.hid g2
      have hBl : B.data.toList.length = B.size := (Lib.size_eq B).symm
      rw [hBl] at hdc
      have HDC := Lib.hid hdc
      obtain ⟨m, hm⟩ : ∃ m, m = ln.length := ⟨_, rfl⟩
      rw [← hm] at g1 g3 HV HG2
      have hj0 : (0 : Int) ≤ (k : Int) := by omega
      have hj1 : (k : Int) ≤ (k : Int) + (m : Int) := by omega
      have hj2 : (k : Int) + (m : Int) ≤ (s.size : Int) := by omega
      have htm : ((k : Int) + (m : Int)).toNat = k + m := by omega
      have hneg : ¬ (k : Int) + (m : Int) < 0 := by omega
      clear hf hln hdc hn hnn cz g2 hlz hx hm hBl
      by_cases hze : ze = 0
      · subst hze
        have HDC : Hid (D = if (n : Int) = 0 then ((trl (r.length + 1) 0 r).1, (if (trl (r.length + 1) 0 r).1 = 0 then B.data.toList else []), (trl (r.length + 1) 0 r).2)
          else if 65536 < (B.size : Int) + n then (4, [], s.data.toList.drop k)
          else if r.length < n + 2 ∨ r[n]? ≠ some 13 ∨ r[n + 1]? ≠ some 10 then (25, [], s.data.toList.drop k)
          else dcd F' (B.data.toList ++ r.take n) (r.drop (n + 2))) := by show _ = _; rw [HDC.out, if_neg (by simp)]
        go_wp2_with fail
        refine (r_end s k _ (by omega) hk).mono ?_
        rw [HV.out]
        rintro e u1 ⟨rfl, rfl⟩
        go_wp2_with fail
        rw [HG2.out]
        refine (CZ.out _).mono ?_
        rintro e u2 ⟨rfl, hu2⟩
        have HB := Lib.hid (below_then HB.out hu2)
        clear hu2
        by_cases hn0 : n = 0
        · subst hn0
          have HDC : Hid (D = ((trl (r.length + 1) 0 r).1, (if (trl (r.length + 1) 0 r).1 = 0 then B.data.toList else []), (trl (r.length + 1) 0 r).2)) := by show _ = _; rw [HDC.out, if_pos (by rfl)]
          obtain ⟨TR, hTR⟩ : ∃ TR, TR = trl (r.length + 1) 0 r := ⟨_, rfl⟩
          rw [← hTR] at HDC
          have HT0 : Hid (TR = trl (r.length + 1) 0 (s.data.toList.drop (k + m + 2))) := by show _ = _; rw [hTR, ← g3]
          have hF0 : s.size + 1 ≤ r.length + 1 + (k + m + 2) := by omega
          have hk2 : k + m + 2 ≤ s.size := by omega
          generalize r.length + 1 = F0 at HT0 hF0
          clear hTR g3 hF HG2 CZ HV
          go_wp2_with fail
          go_loopw [10, 6, 11] (fun c a _ wr => ∃ (q t F : Nat), t ≤ s.size ∧ c = .int .i64 q ∧ a = .int .i64 t ∧ s.size + 1 ≤ F + t ∧ q ≤ 64 ∧ Hid (TR = trl F q (s.data.toList.drop t)) ∧ Below w.heap.size w wr) (fun _ a _ _ => s.size + 1 - (intOf a).toNat)
          case atStart => exact ⟨0, k + m + 2, F0, hk2, rfl, by go_num, hF0, by omega, HT0.out, HB.out⟩
          case round =>
            clear HB HT0 hF0
            obtain ⟨q, t, F2, ht, rfl, rfl, hF2, hq, hf, hbel⟩ := hrel
            obtain ⟨F3, rfl⟩ : ∃ F3, F2 = F3 + 1 := ⟨F2 - 1, by omega⟩
            have HB := Lib.hid hbel
            clear hbel
            cases hln : lineL (s.data.toList.drop t) with
            | none =>
              have HR := Lib.hid (HBAD.out 25 [] (s.data.toList.drop t) (by rw [HDC.out, hf.out, trl, hln]; rfl) (by decide))
              have HV : Hid (endV s t = -1) := by show _ = _; unfold endV; rw [hln]
              clear hf hln HDC
              go_wp2_with fail
              refine (r_end s t _ (by omega) ht).mono ?_
              rw [HV.out]
              rintro e u1 ⟨rfl, rfl⟩
              go_wp2_with fail
              go_ret3
              exact ⟨by rw [HR.out.1, HR.out.2.1, HR.out.2.2]; rfl, HB.out⟩
            | some p =>
              obtain ⟨l2, r2⟩ := p
              obtain ⟨g1, g2, g3⟩ := line_at hln ht
              have HV : Hid (endV s t = (t : Int) + l2.length) := by show _ = _; unfold endV; rw [hln]
              have hf2 : TR = if l2 = [] then (0, r2) else if flX (mkS l2) ≠ 0 then (25, s.data.toList.drop t) else if 64 ≤ q then (4, s.data.toList.drop t) else trl F3 (q + 1) r2 := by rw [hf.out, trl, hln]
              clear hf hln
              by_cases hnil : l2 = []
              · rw [if_pos hnil] at hf2
                have HR := Lib.hid (HOK.out B.data.toList r2 (by rw [HDC.out, hf2]; rfl))
                have hB2 : DB = B := by rw [HR.out.1]; exact (mkS_eq rfl).symm
                subst hnil
                have HR : Hid (DB = B ∧ DN = (t : Int) + 2 ∧ DE = 0) := by
                  refine ⟨hB2, ?_, HR.out.2.2⟩
                  rw [HR.out.2.1]
                  simp only [List.length_nil] at g1
                  omega
                have HV : Hid (endV s t = (t : Int)) := by show _ = _; rw [HV.out]; simp
                clear hf2 HDC g2 hB2
                go_wp2_with fail
                refine (r_end s t _ (by omega) ht).mono ?_
                rw [HV.out]
                rintro e u1 ⟨rfl, rfl⟩
                go_wp2_with fail
                go_ret3
                exact ⟨by rw [HR.out.1, HR.out.2.1, HR.out.2.2]; rfl, HB.out⟩
              · rw [if_neg hnil] at hf2
                have hp : 0 < l2.length := List.length_pos_iff.mpr hnil
                have hlz : (mkS l2).size = l2.length := mkS_size l2
                have cp := fun W => rf_parse (mkS l2) W (by omega)
                generalize flX (mkS l2) = fe at *
                generalize flF (mkS l2) = ff at *
                obtain ⟨f0, f1⟩ := ff
                simp only [fdV] at cp
                obtain ⟨y, hy⟩ : ∃ y, y = mkS l2 := ⟨_, rfl⟩
                rw [← hy] at cp g2
                have HG2 := Lib.hid g2
                have CP := Lib.hid cp
                obtain ⟨m2, hm2⟩ : ∃ m2, m2 = l2.length := ⟨_, rfl⟩
                rw [← hm2] at g1 g3 HV HG2 hp
                have hj3 : (0 : Int) ≤ (t : Int) := by omega
                have hj4 : (t : Int) ≤ (t : Int) + (m2 : Int) := by omega
                have hj5 : (t : Int) + (m2 : Int) ≤ (s.size : Int) := by omega
                have htm2 : ((t : Int) + (m2 : Int)).toNat = t + m2 := by omega
                have hneg2 : ¬ (t : Int) + (m2 : Int) < 0 := by omega
                have hne2 : ((t : Int) + (m2 : Int) == (t : Int)) = false := by
                  have : ¬ ((t : Int) + (m2 : Int) = (t : Int)) := by omega
                  simpa using this
                have HF2 := Lib.hid hf2
                clear hf2 hlz cp g2 hy hm2 hnil
                go_wp2_with fail
                refine (r_end s t _ (by omega) ht).mono ?_
                rw [HV.out]
                rintro e u1 ⟨rfl, rfl⟩
                go_wp2_with fail
                rw [HG2.out]
                refine (CP.out _).mono ?_
                rintro e u2 ⟨rfl, hu2⟩
                have HB := Lib.hid (below_then HB.out hu2)
                have HB := Lib.hid (HB.out.alloc HB.out.size (.cells #[.string f0, .string f1] 105))
                clear hu2
                by_cases hfe : fe = 0
                · subst hfe
                  have HF2 : Hid (TR = if 64 ≤ q then (4, s.data.toList.drop t) else trl F3 (q + 1) r2) := by show _ = _; rw [HF2.out, if_neg (by simp)]
                  by_cases hq64 : 64 ≤ q
                  · have HR := Lib.hid (HBAD.out 4 [] (s.data.toList.drop t) (by rw [HDC.out, HF2.out, if_pos hq64]; rfl) (by decide))
                    have hq65 : (64 : Int) ≤ (q : Int) := by omega
                    clear HDC HF2
                    go_wp2_with fail
                    go_ret3
                    exact ⟨by rw [HR.out.1, HR.out.2.1, HR.out.2.2]; rfl, HB.out⟩
                  · have HF3 : Hid (TR = trl F3 (q + 1) (s.data.toList.drop (t + m2 + 2))) := by show _ = _; rw [HF2.out, if_neg hq64, g3]
                    have hq65 : ¬ (64 : Int) ≤ (q : Int) := by omega
                    clear HDC HF2
                    go_wp2_with fail
                    go_round
                    case rel => exact ⟨q + 1, t + m2 + 2, F3, by omega, by go_num, by go_num, by omega, by omega, HF3.out, HB.out⟩
                    case measure => simp [intOf]; omega
                · have HR := Lib.hid (HBAD.out 25 [] (s.data.toList.drop t) (by rw [HDC.out, HF2.out, if_pos hfe]; rfl) (by decide))
                  have hfe1 : (fe != 0) = true := by simpa using hfe
                  clear HDC HF2
                  go_wp2_with fail
                  go_ret3
                  exact ⟨by rw [HR.out.1, HR.out.2.1, HR.out.2.2]; rfl, HB.out⟩
        · have hn1 : ((n : Int) == 0) = false := by
            have : ¬ ((n : Int) = 0) := by omega
            simpa using this
          have HDC : Hid (D = if 65536 < (B.size : Int) + n then (4, [], s.data.toList.drop k)
            else if r.length < n + 2 ∨ r[n]? ≠ some 13 ∨ r[n + 1]? ≠ some 10 then (25, [], s.data.toList.drop k)
            else dcd F' (B.data.toList ++ r.take n) (r.drop (n + 2))) := by show _ = _; rw [HDC.out, if_neg (by omega)]
          clear HG2 CZ HV
          by_cases hbig : 65536 < (B.size : Int) + (n : Int)
          · have HR := Lib.hid (HBAD.out 4 [] (s.data.toList.drop k) (by rw [HDC.out, if_pos hbig]) (by decide))
            clear HDC
            go_wp2_with fail
            go_ret3
            exact ⟨by rw [HR.out.1, HR.out.2.1, HR.out.2.2]; rfl, HB.out⟩
          · have HDC : Hid (D = if r.length < n + 2 ∨ r[n]? ≠ some 13 ∨ r[n + 1]? ≠ some 10 then (25, [], s.data.toList.drop k)
              else dcd F' (B.data.toList ++ r.take n) (r.drop (n + 2))) := by show _ = _; rw [HDC.out, if_neg hbig]
            by_cases hsh : (s.size : Int) < (k : Int) + (m : Int) + 2 + (n : Int) + 2
            · have HR := Lib.hid (HBAD.out 25 [] (s.data.toList.drop k) (by rw [HDC.out, if_pos (Or.inl (by omega))]) (by decide))
              clear HDC
              go_wp2_with fail
              go_ret3
              exact ⟨by rw [HR.out.1, HR.out.2.1, HR.out.2.2]; rfl, HB.out⟩
            · have hk2 : k + m + 2 + n + 2 ≤ s.size := by omega
              have hk3 : k + m + 2 + n < s.size := by omega
              have hk4 : k + m + 2 + n + 1 < s.size := by omega
              have hq0 : (0 : Int) ≤ (k : Int) + (m : Int) + 2 + (n : Int) := by omega
              have hq1 : (k : Int) + (m : Int) + 2 + (n : Int) < (s.size : Int) := by omega
              have hq2 : (0 : Int) ≤ (k : Int) + (m : Int) + 2 + (n : Int) + 1 := by omega
              have hq3 : (k : Int) + (m : Int) + 2 + (n : Int) + 1 < (s.size : Int) := by omega
              have hq4 : (0 : Int) ≤ (k : Int) + (m : Int) + 2 := by omega
              have hq5 : (k : Int) + (m : Int) + 2 ≤ (k : Int) + (m : Int) + 2 + (n : Int) := by omega
              have hq6 : (k : Int) + (m : Int) + 2 + (n : Int) ≤ (s.size : Int) := by omega
              have ht1 : ((k : Int) + (m : Int) + 2).toNat = k + m + 2 := by omega
              have ht2 : ((k : Int) + (m : Int) + 2 + (n : Int)).toNat = k + m + 2 + n := by omega
              have ht3 : ((k : Int) + (m : Int) + 2 + (n : Int) + 1).toNat = k + m + 2 + n + 1 := by omega
              by_cases h1 : (s[k + m + 2 + n].toNat : Int) = 13
              · have e1 : ((s[k + m + 2 + n].toNat : Int) == 13) = true := by rw [h1]; rfl
                have e1' : ((s[k + m + 2 + n].toNat : Int) != 13) = false := by rw [h1]; rfl
                have f1 : s[k + m + 2 + n] = 13 := by rw [← UInt8.toNat_inj]; show s[k + m + 2 + n].toNat = 13; omega
                by_cases h2 : (s[k + m + 2 + n + 1].toNat : Int) = 10
                · have e2 : ((s[k + m + 2 + n + 1].toNat : Int) != 10) = false := by rw [h2]; rfl
                  have f2 : s[k + m + 2 + n + 1] = 10 := by rw [← UInt8.toNat_inj]; show s[k + m + 2 + n + 1].toNat = 10; omega
                  have hcr := has_crlf hk2 f1 f2
                  rw [← g3] at hcr
                  have HN : Hid (D = dcd F' (B.data.toList ++ r.take n) (s.data.toList.drop (k + m + 2 + n + 2))) := by
                    show _ = _
                    rw [HDC.out, if_neg hcr, g3, List.drop_drop, show k + m + 2 + (n + 2) = k + m + 2 + n + 2 by omega]
                  obtain ⟨a1, a2⟩ := add_piece B s (k + m + 2) n (by omega)
                  rw [← g3] at a1
                  have HA1 := Lib.hid a1
                  have hml : (B ++ s.extract (k + m + 2) (k + m + 2 + n)).size ≤ maxLen := by omega
                  clear HDC hcr f1 f2 a1 h1 h2
                  go_wp2_with fail
                  go_round
                  case rel => exact ⟨k + m + 2 + n + 2, _, F', by omega, rfl, by go_num, by omega, by omega, by rw [HA1.out]; exact HN.out, HB.out⟩
                  case measure => simp [intOf]; omega
                · have e2 : ((s[k + m + 2 + n + 1].toNat : Int) != 10) = true := by simpa using h2
                  have hcr := no_crlf hk2 (fun h => h2 (by rw [h.2]; rfl))
                  rw [← g3] at hcr
                  have HR := Lib.hid (HBAD.out 25 [] (s.data.toList.drop k) (by rw [HDC.out, if_pos hcr]) (by decide))
                  clear HDC hcr f1
                  go_wp2_with fail
                  go_ret3
                  exact ⟨by rw [HR.out.1, HR.out.2.1, HR.out.2.2]; rfl, HB.out⟩
              · have e1 : ((s[k + m + 2 + n].toNat : Int) == 13) = false := by simpa using h1
                have e1' : ((s[k + m + 2 + n].toNat : Int) != 13) = true := by simpa using h1
                have hcr := no_crlf hk2 (fun h => h1 (by rw [h.1]; rfl))
                rw [← g3] at hcr
                have HR := Lib.hid (HBAD.out 25 [] (s.data.toList.drop k) (by rw [HDC.out, if_pos hcr]) (by decide))
                clear HDC hcr
                go_wp2_with fail
                go_ret3
                exact ⟨by rw [HR.out.1, HR.out.2.1, HR.out.2.2]; rfl, HB.out⟩
      · have HR := Lib.hid (HBAD.out ze [] (s.data.toList.drop k) (by rw [HDC.out, if_pos hze]) hze)
        have hze1 : (ze != 0) = true := by simpa using hze
        clear HDC
        go_wp2_with fail
        refine (r_end s k _ (by omega) hk).mono ?_
        rw [HV.out]
        rintro e u1 ⟨rfl, rfl⟩
        go_wp2_with fail
        rw [HG2.out]
        refine (CZ.out _).mono ?_
        rintro e u2 ⟨rfl, hu2⟩
        have HB := Lib.hid (below_then HB.out hu2)
        clear hu2
        go_wp2_with fail
        go_ret3
        exact ⟨by rw [HR.out.1, HR.out.2.1, HR.out.2.2]; rfl, HB.out⟩

end Go.Proofs.YtjcomlklmfeimaaGreatDoor
end
