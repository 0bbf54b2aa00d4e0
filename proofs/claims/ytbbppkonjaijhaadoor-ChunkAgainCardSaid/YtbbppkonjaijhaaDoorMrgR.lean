/-
  Texts that the laws of this seat lean on, one behind the other.
-/
import Derived.Test.YtbbppkonjaijhaaDoorMrgH
import Derived.Test.YtbbppkonjaijhaaDoorMrgL
import Derived.Test.YtbbppkonjaijhaaDoorMrgQ
import Derived.Test.YtbbppkonjaijhaaDoorMrgJ
import Derived.Deep.RegionHeld3
/-
  Contract of the reference's Parse (layer 9).
-/
section
namespace Go.Proofs.YtbbppkonjaijhaaDoor
open Go.RowKit

set_option maxHeartbeats 4000000 in
set_option maxRecDepth 100000 in
theorem rf_parse (s : ByteArray) (w : World) (hs : s.size ≤ maxLen) :
    Calls Tryd.prog 16 #[.string s] w fun e w' => e = .returned (.tuple #[fdV (flF s), .int .i64 (flX s)]) ∧ Below w.heap.size w w' := by
  have hz0 : (w.alloc (.cells #[.string ⟨#[]⟩, .string ⟨#[]⟩] 46)).heap[w.heap.size]? = some (.cells #[.string ⟨#[]⟩, .string ⟨#[]⟩] 46 (0, 0)) := heap_alloc_new w _
  have hb0 : Below w.heap.size w (w.alloc (.cells #[.string ⟨#[]⟩, .string ⟨#[]⟩] 46)) := (Below.refl _ _).alloc (Nat.le_refl _) _
  have HZ := Lib.hid hz0
  have HB := Lib.hid hb0
  by_cases hl : 8192 < s.size
  · have HR := Lib.hid (fl_long hl)
    have hl' : (8192 : Int) < (s.size : Int) := by omega
    clear hz0 hb0 hl
    go_enter Tryd.func16, Tryd.ntmps16
    go_wp2_with fail
    refine bodyPost_ret (results_cell_row_tmp rfl _ _ w.heap.size 46 #[.string ⟨#[]⟩, .string ⟨#[]⟩] (0, 0) _ rfl HZ.out Tryd.underlying46 rfl (by kernel_rfl)) rfl ?_
    exact ⟨by rw [HR.out.1, HR.out.2]; rfl, HB.out⟩
  · have hl' : ¬ (8192 : Int) < (s.size : Int) := by omega
    have cc := fun W => r_cut s 58 W hs (by decide) (by decide)
    have hZs : (cutZ s 58).size ≤ maxLen := Nat.le_trans (flZ_le s 58) hs
    have ct := fun W => r_trim (cutZ s 58) W hZs
    have ck := fun W => r_isToken (flT s).1 W (Nat.le_trans (flT_le s).1 hs)
    have cx := fun W => r_isText (flT s).2 W (Nat.le_trans (flT_le s).2 hs)
    have hno := fun h => fl_no (s := s) hl h
    have hye := fun h => fl_yes (s := s) hl h
    have hT : flT s = (cutA s 58, mkS (trimL (cutZ s 58).data.toList)) := rfl
    have hO : flO s = (cutOk s 58 && ((!(flT s).1.toList.isEmpty && allB tokB (flT s).1.data.toList) && allB txtB (flT s).2.data.toList)) := rfl
    rw [hT] at ck cx hye hO
    generalize cutA s 58 = a at *
    generalize mkS (trimL (cutZ s 58).data.toList) = b at *
    generalize cutZ s 58 = z at *
    generalize cutOk s 58 = ok at *
    simp only at ck cx hO
    generalize (!a.toList.isEmpty && allB tokB a.data.toList) = tk at *
    generalize allB txtB b.data.toList = tx at *
    have CC := Lib.hid cc
    have CT := Lib.hid ct
    have CK := Lib.hid ck
    have CX := Lib.hid cx
    clear cc ct ck cx hT hZs hl hz0 hb0
    cases ok
    · have HR := Lib.hid (hno (by rw [hO]; rfl))
      clear hno hye hO
      go_enter Tryd.func16, Tryd.ntmps16
      go_wp2_with fail
      refine (CC.out _).mono ?_
      rintro e w1 ⟨rfl, hb1⟩
      have HZ1 := Lib.hid (zero_still hb1 HZ.out)
      have HB1 := Lib.hid (below_then HB.out hb1)
      obtain ⟨z0, z1, y0, y1⟩ := fd_cells HZ1.out
      clear hb1
      go_wp2_with fail
      refine (CT.out _).mono ?_
      rintro e w2 ⟨rfl, rfl⟩
      go_wp2_with fail
      refine bodyPost_ret (results_cell_row_tmp rfl _ _ w.heap.size 46 #[.string ⟨#[]⟩, .string ⟨#[]⟩] (0, 0) _ rfl (fd_set HZ1.out) Tryd.underlying46 rfl (by kernel_rfl)) rfl ?_
      exact ⟨by rw [HR.out.1, HR.out.2]; rfl, below_set2 HB1.out (Nat.le_refl _)⟩
    · cases tk
      · have HR := Lib.hid (hno (by rw [hO]; rfl))
        clear hno hye hO
        go_enter Tryd.func16, Tryd.ntmps16
        go_wp2_with fail
        refine (CC.out _).mono ?_
        rintro e w1 ⟨rfl, hb1⟩
        have HZ1 := Lib.hid (zero_still hb1 HZ.out)
        have HB1 := Lib.hid (below_then HB.out hb1)
        obtain ⟨z0, z1, y0, y1⟩ := fd_cells HZ1.out
        clear hb1
        go_wp2_with fail
        refine (CT.out _).mono ?_
        rintro e w2 ⟨rfl, rfl⟩
        go_wp2_with fail
        refine (CK.out _).mono ?_
        rintro e w2 ⟨rfl, rfl⟩
        go_wp2_with fail
        refine bodyPost_ret (results_cell_row_tmp rfl _ _ w.heap.size 46 #[.string ⟨#[]⟩, .string ⟨#[]⟩] (0, 0) _ rfl (fd_set HZ1.out) Tryd.underlying46 rfl (by kernel_rfl)) rfl ?_
        exact ⟨by rw [HR.out.1, HR.out.2]; rfl, below_set2 HB1.out (Nat.le_refl _)⟩
      · cases tx
        · have HR := Lib.hid (hno (by rw [hO]; rfl))
          clear hno hye hO
          go_enter Tryd.func16, Tryd.ntmps16
          go_wp2_with fail
          refine (CC.out _).mono ?_
          rintro e w1 ⟨rfl, hb1⟩
          have HZ1 := Lib.hid (zero_still hb1 HZ.out)
          have HB1 := Lib.hid (below_then HB.out hb1)
          obtain ⟨z0, z1, y0, y1⟩ := fd_cells HZ1.out
          clear hb1
          go_wp2_with fail
          refine (CT.out _).mono ?_
          rintro e w2 ⟨rfl, rfl⟩
          go_wp2_with fail
          refine (CK.out _).mono ?_
          rintro e w2 ⟨rfl, rfl⟩
          go_wp2_with fail
          refine (CX.out _).mono ?_
          rintro e w2 ⟨rfl, rfl⟩
          go_wp2_with fail
          refine bodyPost_ret (results_cell_row_tmp rfl _ _ w.heap.size 46 #[.string ⟨#[]⟩, .string ⟨#[]⟩] (0, 0) _ rfl (fd_set HZ1.out) Tryd.underlying46 rfl (by kernel_rfl)) rfl ?_
          exact ⟨by rw [HR.out.1, HR.out.2]; rfl, below_set2 HB1.out (Nat.le_refl _)⟩
        · have HR := Lib.hid (hye (by rw [hO]; rfl))
          clear hno hye hO
          go_enter Tryd.func16, Tryd.ntmps16
          go_wp2_with fail
          refine (CC.out _).mono ?_
          rintro e w1 ⟨rfl, hb1⟩
          have HZ1 := Lib.hid (zero_still hb1 HZ.out)
          have HB1 := Lib.hid (below_then HB.out hb1)
          obtain ⟨z0, z1, y0, y1⟩ := fd_cells HZ1.out
          clear hb1
          go_wp2_with fail
          refine (CT.out _).mono ?_
          rintro e w2 ⟨rfl, rfl⟩
          go_wp2_with fail
          refine (CK.out _).mono ?_
          rintro e w2 ⟨rfl, rfl⟩
          go_wp2_with fail
          refine (CX.out _).mono ?_
          rintro e w2 ⟨rfl, rfl⟩
          go_wp2_with fail
          refine bodyPost_ret (results_cell_row_tmp rfl _ _ w.heap.size 46 #[.string a, .string b] (0, 0) _ rfl (fd_set HZ1.out) Tryd.underlying46 rfl (by kernel_rfl)) rfl ?_
          exact ⟨by rw [HR.out.1, HR.out.2]; rfl, below_set2 HB1.out (Nat.le_refl _)⟩

end Go.Proofs.YtbbppkonjaijhaaDoor
end

/-
  Contracts of package fields' proper and Parse.
-/
section
namespace Go.Proofs.YtbbppkonjaijhaaDoor
open Go.RowKit
set_option linter.unusedSimpArgs false

/-! ### One operation of a region that draws, taken by hand: one that is wanted, one that is not -/
theorem take_yes {P : Program} {ops : Array Oper} {Q : Exit → Act → World → Prop} {md : Region.Mode} {S : World → Prop} {i d : Nat} {oi : Oper} {v : Value} {fuel : Nat} {listed : Array Bool} {a : Act} {w : World} (hi : ops[i]? = some oi) (hd : oi.dst = some d)
    (hs : Region.noSelect ops = true) (hf : Region.free md ops listed i = true) (hr : (Region.ready md ops listed).contains i = true)
    (hw : Region.wanted oi (yielded ops a.tmps) = true) (hQ : ∀ c a w, Q (.panic c) (a.put oi.dst v) w → Q (.panic c) a w) (hy : ∀ w, S w → (execOp a.eval oi).run P w = .ok (.value v) w) (hS : S w)
    (h : wpAnyH P md ops Q S fuel (listed.setIfInBounds i true) (a.put (some d) v) w) : wpAnyH P md ops Q S (fuel + 1) listed a w :=
  wpAnyH_take hi hs hf hr hQ (.inl ⟨hw, hy⟩) hS (by rw [hd]; exact h)
theorem take_not {P : Program} {ops : Array Oper} {Q : Exit → Act → World → Prop} {md : Region.Mode} {S : World → Prop} {i d : Nat} {oi : Oper} {fuel : Nat} {listed : Array Bool} {a : Act} {w : World} (hi : ops[i]? = some oi) (hd : oi.dst = some d)
    (hs : Region.noSelect ops = true) (hf : Region.free md ops listed i = true) (hr : (Region.ready md ops listed).contains i = true)
    (hw : Region.wanted oi (yielded ops a.tmps) = false) (hQ : ∀ c a w, Q (.panic c) (a.put oi.dst undef) w → Q (.panic c) a w) (hS : S w)
    (h : wpAnyH P md ops Q S fuel (listed.setIfInBounds i true) (a.put (some d) undef) w) : wpAnyH P md ops Q S (fuel + 1) listed a w :=
  wpAnyH_take hi hs hf hr hQ (.inr ⟨hw, rfl⟩) hS (by rw [hd]; exact h)

set_option maxHeartbeats 16000000 in
set_option maxRecDepth 100000 in
theorem proper_any (x : Fd) (hz1 : x.1.size ≤ maxLen) (hz2 : x.2.size ≤ maxLen) (w : World) :
    Calls Tryd.prog 41 #[fdV x] w fun e w' => e = .returned (.bool (prpF x)) ∧ Below w.heap.size w w' := by
  obtain ⟨a, b⟩ := x
  have hD : prpF (a, b) = (((!a.toList.isEmpty && allB tokB a.data.toList) && allB txtB b.data.toList) && ((mkS (trimL b.data.toList)).toList == b.toList)) := rfl
  have ct := fun W => isToken_any a W hz1
  have cx := fun W => isText_any b W hz2
  have cm := fun W => trim_any b W hz2
  rw [hD]
  clear hD
  generalize (!a.toList.isEmpty && allB tokB a.data.toList) = T at *
  generalize allB txtB b.data.toList = X at *
  generalize mkS (trimL b.data.toList) = S at *
  have CT := Lib.hid ct
  have CX := Lib.hid cx
  have CM := Lib.hid cm
  clear ct cx cm hz1 hz2
  have hb : Below w.heap.size w (w.alloc (.cells #[.string a, .string b] 46)).drew := ((Below.refl _ _).alloc (Nat.le_refl _) _).drew
  have HA : Hid ((w.alloc (.cells #[.string a, .string b] 46)).drew.heap[w.heap.size]? = some (.cells #[.string a, .string b] 46 (0, 0))) := heap_alloc_new w _
  unfold fdV
  have both : ∀ t : Bool, t = true ∨ t = false := fun t => by cases t <;> simp
  rcases both T with rfl | rfl
  · rcases both X with rfl | rfl
    · rcases both (S.toList == b.toList) with hS | hS
      all_goals
        go_enter Tryd.func41, Tryd.ntmps41
        go_wp2_with fail
        go_region_held3 (fun W => W.cell? ⟨w.heap.size, 0, none⟩ = some (.string a) ∧ W.cell? ⟨w.heap.size, 1, none⟩ = some (.string b)) (exact zero_two HA.out) (first
          | (go_at_call 58; refine (CT.out _).mono ?_; rintro e v1 ⟨rfl, hb'⟩; have HA := Lib.hid (zero_still hb' HA.out); have hb := below_then hb hb'; clear hb')
          | (go_at_call 35; refine (CX.out _).mono ?_; rintro e v2 ⟨rfl, hb'⟩; have HA := Lib.hid (zero_still hb' HA.out); have hb := below_then hb hb'; clear hb')
          | (go_at_call 40; refine (CM.out _).mono ?_; rintro e v3 ⟨rfl, hb'⟩; have HA := Lib.hid (zero_still hb' HA.out); have hb := below_then hb hb'; clear hb'))
        go_wp2_with fail
        go_ret
        exact ⟨by simp [hS], hb⟩
    · skip
      go_enter Tryd.func41, Tryd.ntmps41
      go_wp2_with fail
      refine wp_region_held_drew (S := fun W => W.cell? ⟨w.heap.size, 0, none⟩ = some (.string a) ∧ W.cell? ⟨w.heap.size, 1, none⟩ = some (.string b)) (by kernel_rfl) (zero_two HA.out) (fun hHeld => ?_)
      refine take_yes (i := 0) (v := ?_) rfl rfl (by kernel_rfl) (by kernel_rfl) (by kernel_rfl) (by rfl) (fun _ _ _ h => h) ?y7 (by assumption) ?r7
      case y7 => (intro w hSw; (try dsimp only at hSw); go_simp; try with_reducible rfl)
      try simp only [Act.put, List.setIfInBounds_toArray, List.set_cons_zero, List.set_cons_succ]
      refine take_yes (i := 1) (v := ?_) rfl rfl (by kernel_rfl) (by kernel_rfl) (by kernel_rfl) (by rfl) (fun _ _ _ h => h) ?y8 (by assumption) ?r8
      case y8 => (intro w hSw; (try dsimp only at hSw); go_simp; try with_reducible rfl)
      try simp only [Act.put, List.setIfInBounds_toArray, List.set_cons_zero, List.set_cons_succ]
      refine wpAnyH_ready (rs := [2]) (by kernel_rfl) (by simp) (AllReadyH.cons rfl (fun K hK => ?_) AllReadyH.nil)
      go_simp
      go_at_call 58
      refine (CT.out _).mono ?_
      rintro e v1 ⟨rfl, hb'⟩
      have HA := Lib.hid (zero_still hb' HA.out)
      have hb := below_then hb hb'
      clear hb'
      go_wp2_with fail
      refine hK.out _ _ (zero_two HA.out) (fun hHeld => ?_)
      clear hK
      try simp only [Act.put, List.setIfInBounds_toArray, List.set_cons_zero, List.set_cons_succ]
      refine take_yes (i := 3) (v := ?_) rfl rfl (by kernel_rfl) (by kernel_rfl) (by kernel_rfl) (by rfl) (fun _ _ _ h => h) ?y9 (by assumption) ?r9
      case y9 => (intro w hSw; (try dsimp only at hSw); go_simp; try with_reducible rfl)
      try simp only [Act.put, List.setIfInBounds_toArray, List.set_cons_zero, List.set_cons_succ]
      refine take_yes (i := 4) (v := ?_) rfl rfl (by kernel_rfl) (by kernel_rfl) (by kernel_rfl) (by rfl) (fun _ _ _ h => h) ?y10 (by assumption) ?r10
      case y10 => (intro w hSw; (try dsimp only at hSw); go_simp; try with_reducible rfl)
      try simp only [Act.put, List.setIfInBounds_toArray, List.set_cons_zero, List.set_cons_succ]
      refine take_yes (i := 5) (v := ?_) rfl rfl (by kernel_rfl) (by kernel_rfl) (by kernel_rfl) (by rfl) (fun _ _ _ h => h) ?y11 (by assumption) ?r11
      case y11 => (intro w hSw; (try dsimp only at hSw); go_simp; try with_reducible rfl)
      try simp only [Act.put, List.setIfInBounds_toArray, List.set_cons_zero, List.set_cons_succ]
      refine wpAnyH_ready (rs := [6]) (by kernel_rfl) (by simp) (AllReadyH.cons rfl (fun K hK => ?_) AllReadyH.nil)
      go_simp
      go_at_call 35
      refine (CX.out _).mono ?_
      rintro e v2 ⟨rfl, hb'⟩
      have HA := Lib.hid (zero_still hb' HA.out)
      have hb := below_then hb hb'
      clear hb'
      go_wp2_with fail
      refine hK.out _ _ (zero_two HA.out) (fun hHeld => ?_)
      clear hK
      try simp only [Act.put, List.setIfInBounds_toArray, List.set_cons_zero, List.set_cons_succ]
      refine take_yes (i := 7) (v := ?_) rfl rfl (by kernel_rfl) (by kernel_rfl) (by kernel_rfl) (by rfl) (fun _ _ _ h => h) ?y12 (by assumption) ?r12
      case y12 => (intro w hSw; (try dsimp only at hSw); go_simp; try with_reducible rfl)
      try simp only [Act.put, List.setIfInBounds_toArray, List.set_cons_zero, List.set_cons_succ]
      refine take_yes (i := 8) (v := ?_) rfl rfl (by kernel_rfl) (by kernel_rfl) (by kernel_rfl) (by rfl) (fun _ _ _ h => h) ?y13 (by assumption) ?r13
      case y13 => (intro w hSw; (try dsimp only at hSw); go_simp; try with_reducible rfl)
      try simp only [Act.put, List.setIfInBounds_toArray, List.set_cons_zero, List.set_cons_succ]
      refine take_not (i := 9) rfl rfl (by kernel_rfl) (by kernel_rfl) (by kernel_rfl) (by rfl) (fun _ _ _ h => h) (by assumption) ?_
      try simp only [Act.put, List.setIfInBounds_toArray, List.set_cons_zero, List.set_cons_succ]
      refine take_not (i := 10) rfl rfl (by kernel_rfl) (by kernel_rfl) (by kernel_rfl) (by rfl) (fun _ _ _ h => h) (by assumption) ?_
      try simp only [Act.put, List.setIfInBounds_toArray, List.set_cons_zero, List.set_cons_succ]
      refine take_not (i := 11) rfl rfl (by kernel_rfl) (by kernel_rfl) (by kernel_rfl) (by rfl) (fun _ _ _ h => h) (by assumption) ?_
      try simp only [Act.put, List.setIfInBounds_toArray, List.set_cons_zero, List.set_cons_succ]
      refine take_not (i := 12) rfl rfl (by kernel_rfl) (by kernel_rfl) (by kernel_rfl) (by rfl) (fun _ _ _ h => h) (by assumption) ?_
      try simp only [Act.put, List.setIfInBounds_toArray, List.set_cons_zero, List.set_cons_succ]
      refine take_not (i := 13) rfl rfl (by kernel_rfl) (by kernel_rfl) (by kernel_rfl) (by rfl) (fun _ _ _ h => h) (by assumption) ?_
      try simp only [Act.put, List.setIfInBounds_toArray, List.set_cons_zero, List.set_cons_succ]
      refine take_not (i := 14) rfl rfl (by kernel_rfl) (by kernel_rfl) (by kernel_rfl) (by rfl) (fun _ _ _ h => h) (by assumption) ?_
      try simp only [Act.put, List.setIfInBounds_toArray, List.set_cons_zero, List.set_cons_succ]
      refine take_yes (i := 15) (v := ?_) rfl rfl (by kernel_rfl) (by kernel_rfl) (by kernel_rfl) (by rfl) (fun _ _ _ h => h) ?y14 (by assumption) ?r14
      case y14 => (intro w hSw; (try dsimp only at hSw); go_simp; try with_reducible rfl)
      try simp only [Act.put, List.setIfInBounds_toArray, List.set_cons_zero, List.set_cons_succ]
      refine wpAnyH_ready (rs := [16]) (by kernel_rfl) (by simp) (AllReadyH.cons rfl (fun K hK => ?_) AllReadyH.nil)
      go_simp
      refine hK.out _ _ hHeld (fun hHeld2 => ?_)
      clear hK
      refine wpAnyH_done (by kernel_rfl) ?_ _
      go_wp2_with fail
      go_ret
      exact ⟨by simp, hb⟩
  · skip
    go_enter Tryd.func41, Tryd.ntmps41
    go_wp2_with fail
    refine wp_region_held_drew (S := fun W => W.cell? ⟨w.heap.size, 0, none⟩ = some (.string a) ∧ W.cell? ⟨w.heap.size, 1, none⟩ = some (.string b)) (by kernel_rfl) (zero_two HA.out) (fun hHeld => ?_)
    refine take_yes (i := 0) (v := ?_) rfl rfl (by kernel_rfl) (by kernel_rfl) (by kernel_rfl) (by rfl) (fun _ _ _ h => h) ?y1 (by assumption) ?r1
    case y1 => (intro w hSw; (try dsimp only at hSw); go_simp; try with_reducible rfl)
    try simp only [Act.put, List.setIfInBounds_toArray, List.set_cons_zero, List.set_cons_succ]
    refine take_yes (i := 1) (v := ?_) rfl rfl (by kernel_rfl) (by kernel_rfl) (by kernel_rfl) (by rfl) (fun _ _ _ h => h) ?y2 (by assumption) ?r2
    case y2 => (intro w hSw; (try dsimp only at hSw); go_simp; try with_reducible rfl)
    try simp only [Act.put, List.setIfInBounds_toArray, List.set_cons_zero, List.set_cons_succ]
    refine wpAnyH_ready (rs := [2]) (by kernel_rfl) (by simp) (AllReadyH.cons rfl (fun K hK => ?_) AllReadyH.nil)
    go_simp
    go_at_call 58
    refine (CT.out _).mono ?_
    rintro e v1 ⟨rfl, hb'⟩
    have HA := Lib.hid (zero_still hb' HA.out)
    have hb := below_then hb hb'
    clear hb'
    go_wp2_with fail
    refine hK.out _ _ (zero_two HA.out) (fun hHeld => ?_)
    clear hK
    try simp only [Act.put, List.setIfInBounds_toArray, List.set_cons_zero, List.set_cons_succ]
    refine take_yes (i := 3) (v := ?_) rfl rfl (by kernel_rfl) (by kernel_rfl) (by kernel_rfl) (by rfl) (fun _ _ _ h => h) ?y3 (by assumption) ?r3
    case y3 => (intro w hSw; (try dsimp only at hSw); go_simp; try with_reducible rfl)
    try simp only [Act.put, List.setIfInBounds_toArray, List.set_cons_zero, List.set_cons_succ]
    refine take_not (i := 4) rfl rfl (by kernel_rfl) (by kernel_rfl) (by kernel_rfl) (by rfl) (fun _ _ _ h => h) (by assumption) ?_
    try simp only [Act.put, List.setIfInBounds_toArray, List.set_cons_zero, List.set_cons_succ]
    refine take_not (i := 5) rfl rfl (by kernel_rfl) (by kernel_rfl) (by kernel_rfl) (by rfl) (fun _ _ _ h => h) (by assumption) ?_
    try simp only [Act.put, List.setIfInBounds_toArray, List.set_cons_zero, List.set_cons_succ]
    refine take_not (i := 6) rfl rfl (by kernel_rfl) (by kernel_rfl) (by kernel_rfl) (by rfl) (fun _ _ _ h => h) (by assumption) ?_
    try simp only [Act.put, List.setIfInBounds_toArray, List.set_cons_zero, List.set_cons_succ]
    refine take_yes (i := 7) (v := ?_) rfl rfl (by kernel_rfl) (by kernel_rfl) (by kernel_rfl) (by rfl) (fun _ _ _ h => h) ?y4 (by assumption) ?r4
    case y4 => (intro w hSw; (try dsimp only at hSw); go_simp; try with_reducible rfl)
    try simp only [Act.put, List.setIfInBounds_toArray, List.set_cons_zero, List.set_cons_succ]
    refine take_yes (i := 8) (v := ?_) rfl rfl (by kernel_rfl) (by kernel_rfl) (by kernel_rfl) (by rfl) (fun _ _ _ h => h) ?y5 (by assumption) ?r5
    case y5 => (intro w hSw; (try dsimp only at hSw); go_simp; try with_reducible rfl)
    try simp only [Act.put, List.setIfInBounds_toArray, List.set_cons_zero, List.set_cons_succ]
    refine take_not (i := 9) rfl rfl (by kernel_rfl) (by kernel_rfl) (by kernel_rfl) (by rfl) (fun _ _ _ h => h) (by assumption) ?_
    try simp only [Act.put, List.setIfInBounds_toArray, List.set_cons_zero, List.set_cons_succ]
    refine take_not (i := 10) rfl rfl (by kernel_rfl) (by kernel_rfl) (by kernel_rfl) (by rfl) (fun _ _ _ h => h) (by assumption) ?_
    try simp only [Act.put, List.setIfInBounds_toArray, List.set_cons_zero, List.set_cons_succ]
    refine take_not (i := 11) rfl rfl (by kernel_rfl) (by kernel_rfl) (by kernel_rfl) (by rfl) (fun _ _ _ h => h) (by assumption) ?_
    try simp only [Act.put, List.setIfInBounds_toArray, List.set_cons_zero, List.set_cons_succ]
    refine take_not (i := 12) rfl rfl (by kernel_rfl) (by kernel_rfl) (by kernel_rfl) (by rfl) (fun _ _ _ h => h) (by assumption) ?_
    try simp only [Act.put, List.setIfInBounds_toArray, List.set_cons_zero, List.set_cons_succ]
    refine take_not (i := 13) rfl rfl (by kernel_rfl) (by kernel_rfl) (by kernel_rfl) (by rfl) (fun _ _ _ h => h) (by assumption) ?_
    try simp only [Act.put, List.setIfInBounds_toArray, List.set_cons_zero, List.set_cons_succ]
    refine take_not (i := 14) rfl rfl (by kernel_rfl) (by kernel_rfl) (by kernel_rfl) (by rfl) (fun _ _ _ h => h) (by assumption) ?_
    try simp only [Act.put, List.setIfInBounds_toArray, List.set_cons_zero, List.set_cons_succ]
    refine take_yes (i := 15) (v := ?_) rfl rfl (by kernel_rfl) (by kernel_rfl) (by kernel_rfl) (by rfl) (fun _ _ _ h => h) ?y6 (by assumption) ?r6
    case y6 => (intro w hSw; (try dsimp only at hSw); go_simp; try with_reducible rfl)
    try simp only [Act.put, List.setIfInBounds_toArray, List.set_cons_zero, List.set_cons_succ]
    refine wpAnyH_ready (rs := [16]) (by kernel_rfl) (by simp) (AllReadyH.cons rfl (fun K hK => ?_) AllReadyH.nil)
    go_simp
    refine hK.out _ _ hHeld (fun hHeld2 => ?_)
    clear hK
    refine wpAnyH_done (by kernel_rfl) ?_ _
    go_wp2_with fail
    go_ret
    exact ⟨by simp, hb⟩

set_option maxHeartbeats 4000000 in
set_option maxRecDepth 100000 in
theorem parse_any (s : ByteArray) (w : World) (hs : s.size ≤ maxLen) :
    Calls Tryd.prog 25 #[.string s] w fun e w' => e = .returned (.tuple #[fdV (flF s), .int .i64 (flX s)]) ∧ Below w.heap.size w w' := by
  have hz0 : (w.alloc (.cells #[.string ⟨#[]⟩, .string ⟨#[]⟩] 46)).heap[w.heap.size]? = some (.cells #[.string ⟨#[]⟩, .string ⟨#[]⟩] 46 (0, 0)) := heap_alloc_new w _
  have hb0 : Below w.heap.size w (w.alloc (.cells #[.string ⟨#[]⟩, .string ⟨#[]⟩] 46)) := (Below.refl _ _).alloc (Nat.le_refl _) _
  have HZ := Lib.hid hz0
  have HB := Lib.hid hb0
  by_cases hl : 8192 < s.size
  · have HR := Lib.hid (fl_long hl)
    have hl' : (8192 : Int) < (s.size : Int) := by omega
    clear hz0 hb0 hl
    go_enter Tryd.func25, Tryd.ntmps25
    go_wp2_with fail
    refine bodyPost_ret (results_cell_row_tmp rfl _ _ w.heap.size 46 #[.string ⟨#[]⟩, .string ⟨#[]⟩] (0, 0) _ rfl HZ.out Tryd.underlying46 rfl (by kernel_rfl)) rfl ?_
    exact ⟨by rw [HR.out.1, HR.out.2]; rfl, HB.out⟩
  · have hl' : ¬ (8192 : Int) < (s.size : Int) := by omega
    have cc := fun W => cut_any s 58 W hs (by decide) (by decide)
    have hZs : (cutZ s 58).size ≤ maxLen := Nat.le_trans (flZ_le s 58) hs
    have ct := fun W => trim_any (cutZ s 58) W hZs
    have cp := fun W => proper_any (flT s) (Nat.le_trans (flT_le s).1 hs) (Nat.le_trans (flT_le s).2 hs) W
    have hno := fun h => fl_no (s := s) hl h
    have hye := fun h => fl_yes (s := s) hl h
    have hpr := fl_prp s
    have hT : flT s = (cutA s 58, mkS (trimL (cutZ s 58).data.toList)) := rfl
    rw [hT] at cp hye hpr
    unfold fdV at cp
    generalize cutA s 58 = a at *
    generalize mkS (trimL (cutZ s 58).data.toList) = b at *
    generalize cutZ s 58 = z at *
    generalize cutOk s 58 = ok at *
    generalize prpF (a, b) = pr at *
    have CC := Lib.hid cc
    have CT := Lib.hid ct
    have CP := Lib.hid cp
    clear cc ct cp hT hZs hl hz0 hb0
    cases ok
    · have HR := Lib.hid (hno (by rw [← hpr]; rfl))
      clear hno hye hpr
      go_enter Tryd.func25, Tryd.ntmps25
      go_wp2_with fail
      refine (CC.out _).mono ?_
      rintro e w1 ⟨rfl, hb1⟩
      have HZ1 := Lib.hid (zero_still hb1 HZ.out)
      have HB1 := Lib.hid (below_then HB.out hb1)
      clear hb1
      go_wp2_with fail
      refine (CT.out _).mono ?_
      rintro e w2 ⟨rfl, hb2⟩
      have HZ2 := Lib.hid (zero_still hb2 HZ1.out)
      have HZ3 := Lib.hid (zero_more (o' := .cells #[.string a, .string b] 46) HZ2.out)
      have HB2 := Lib.hid ((below_then HB1.out hb2).alloc (below_then HB1.out hb2).size (.cells #[.string a, .string b] 46))
      obtain ⟨z0, z1, y0, y1⟩ := fd_cells HZ3.out
      clear hb2
      go_wp2_with fail
      refine bodyPost_ret (results_cell_row_tmp rfl _ _ w.heap.size 46 #[.string ⟨#[]⟩, .string ⟨#[]⟩] (0, 0) _ rfl (fd_set HZ3.out) Tryd.underlying46 rfl (by kernel_rfl)) rfl ?_
      exact ⟨by rw [HR.out.1, HR.out.2]; rfl, below_set2 HB2.out (Nat.le_refl _)⟩
    · cases pr
      · have HR := Lib.hid (hno (by rw [← hpr]; rfl))
        clear hno hye hpr
        go_enter Tryd.func25, Tryd.ntmps25
        go_wp2_with fail
        refine (CC.out _).mono ?_
        rintro e w1 ⟨rfl, hb1⟩
        have HZ1 := Lib.hid (zero_still hb1 HZ.out)
        have HB1 := Lib.hid (below_then HB.out hb1)
        clear hb1
        go_wp2_with fail
        refine (CT.out _).mono ?_
        rintro e w2 ⟨rfl, hb2⟩
        have HZ2 := Lib.hid (zero_still hb2 HZ1.out)
        have HZ3 := Lib.hid (zero_more (o' := .cells #[.string a, .string b] 46) HZ2.out)
        have HB2 := Lib.hid ((below_then HB1.out hb2).alloc (below_then HB1.out hb2).size (.cells #[.string a, .string b] 46))
        clear hb2
        go_wp2_with fail
        refine (CP.out _).mono ?_
        rintro e w3 ⟨rfl, hb3⟩
        have HZ4 := Lib.hid (zero_still hb3 HZ3.out)
        have HB3 := Lib.hid (below_then HB2.out hb3)
        obtain ⟨z0, z1, y0, y1⟩ := fd_cells HZ4.out
        clear hb3
        go_wp2_with fail
        refine bodyPost_ret (results_cell_row_tmp rfl _ _ w.heap.size 46 #[.string ⟨#[]⟩, .string ⟨#[]⟩] (0, 0) _ rfl (fd_set HZ4.out) Tryd.underlying46 rfl (by kernel_rfl)) rfl ?_
        exact ⟨by rw [HR.out.1, HR.out.2]; rfl, below_set2 HB3.out (Nat.le_refl _)⟩
      · have HR := Lib.hid (hye (by rw [← hpr]; rfl))
        clear hno hye hpr
        go_enter Tryd.func25, Tryd.ntmps25
        go_wp2_with fail
        refine (CC.out _).mono ?_
        rintro e w1 ⟨rfl, hb1⟩
        have HZ1 := Lib.hid (zero_still hb1 HZ.out)
        have HB1 := Lib.hid (below_then HB.out hb1)
        clear hb1
        go_wp2_with fail
        refine (CT.out _).mono ?_
        rintro e w2 ⟨rfl, hb2⟩
        have HZ2 := Lib.hid (zero_still hb2 HZ1.out)
        have HZ3 := Lib.hid (zero_more (o' := .cells #[.string a, .string b] 46) HZ2.out)
        have HV3 := Lib.hid (heap_alloc_new w2 (.cells #[.string a, .string b] 46))
        have HB2 := Lib.hid ((below_then HB1.out hb2).alloc (below_then HB1.out hb2).size (.cells #[.string a, .string b] 46))
        clear hb2
        go_wp2_with fail
        refine (CP.out _).mono ?_
        rintro e w3 ⟨rfl, hb3⟩
        have HZ4 := Lib.hid (zero_still hb3 HZ3.out)
        have HB3 := Lib.hid (below_then HB2.out hb3)
        obtain ⟨z0, z1, y0, y1⟩ := fd_cells HZ4.out
        obtain ⟨v0, v1⟩ := zero_two (zero_still hb3 HV3.out)
        clear hb3
        go_wp2_with fail
        refine bodyPost_ret (results_cell_row_tmp rfl _ _ w.heap.size 46 #[.string a, .string b] (0, 0) _ rfl (fd_set HZ4.out) Tryd.underlying46 rfl (by kernel_rfl)) rfl ?_
        exact ⟨by rw [HR.out.1, HR.out.2]; rfl, below_set2 HB3.out (Nat.le_refl _)⟩

end Go.Proofs.YtbbppkonjaijhaaDoor
end
