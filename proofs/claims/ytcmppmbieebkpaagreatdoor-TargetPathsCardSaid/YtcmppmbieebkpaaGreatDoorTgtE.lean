/-
  Contract of divide of package target.
-/
import Derived.Test.YtcmppmbieebkpaaGreatDoorTgtF
import Derived.Test.YtcmppmbieebkpaaGreatDoorTgtR
import Derived.Test.YtcmppmbieebkpaaGreatDoorTarW
namespace Go.Proofs.YtcmppmbieebkpaaGreatDoor
open Go.RowKit Go.Shelf

/-- strings.IndexAny at "/?", every text. -/
theorem idxAny_any (s : ByteArray) (w : World) (hs : s.size ≤ 1000000) :
    Calls Tryz.prog 52 #[.string s, .string ⟨#[47, 63]⟩] w fun e w' => e = .returned (.int .i64 (Lib.indexAny s.data.toList [47, 63])) ∧ Below w.heap.size w w' := by
  by_cases h : s.size ≤ 8
  · exact idxAny_short s w h
  · refine (Tryz.strings_IndexAny_long (zero_of_info (show (Tryz.prog.info? 99).map (fun i => (i.zero, i.size)) = some (some (.agg (Array.replicate 256 (.bool false))), 256) by kernel_rfl)).1 s ⟨#[47, 63]⟩ w (by decide) (by omega) (by omega) (by decide) (fun j b hj => ?_)).mono ?_
    · rcases j with _ | _ | j
      · simp only [List.getElem?_cons_zero, Option.some.injEq] at hj; subst hj; decide
      · simp only [List.getElem?_cons_succ, List.getElem?_cons_zero, Option.some.injEq] at hj; subst hj; decide
      · simp at hj
    · rintro e w' ⟨rfl, rfl⟩
      exact ⟨rfl, ((Below.refl _ _).alloc (Nat.le_refl _) _).alloc (by simp) _⟩

theorem http_idx {t h R H S : ByteArray} {E : Nat} (X : Http8 t h R H S E) : (S.size = 0 → Lib.indexAny R.data.toList [47, 63] = -1 ∧ E = R.size) ∧ (0 < S.size → Lib.indexAny R.data.toList [47, 63] = (E : Int)) := by
  have hno : ∀ k, k ≤ E → k ≤ R.size → Lib.NoAny R.data.toList [47, 63] k := fun k hk hk2 j b hj hb => by
    have hjr : j < R.size := by omega
    rw [Lib.data_getElem? R j hjr] at hb
    obtain ⟨h1, h2⟩ := X.ink j hjr (by omega)
    rw [bne_iff_ne] at h1 h2
    have e := Option.some.inj hb
    have n1 : b ≠ 47 := fun q => h1 (by rw [e, q]; rfl)
    have n2 : b ≠ 63 := fun q => h2 (by rw [e, q]; rfl)
    simp [n1, n2]
  constructor
  · intro h0
    have hE : E = R.size := by
      rcases X.em with ⟨_, h⟩ | ⟨h, _⟩
      · have := X.er; omega
      · omega
    refine ⟨Lib.indexAny_none ?_, hE⟩
    rw [← Lib.size_eq]
    exact hno _ (by omega) (Nat.le_refl _)
  · intro h0
    have hlt : E < R.size := by
      rcases X.em with ⟨h, _⟩ | ⟨_, h⟩
      · omega
      · exact h
    obtain ⟨h1, h2⟩ := X.hd h0
    refine Lib.indexAny_hit (hno E (Nat.le_refl _) X.er) (Lib.data_getElem? R E hlt) ?_
    rw [h2 hlt]
    rcases h1 with h | h <;> rw [h] <;> rfl

theorem sch_same {t : ByteArray} (h : 7 ≤ t.size) : sameB (t.extract 0 7) ⟨#[104, 116, 116, 112, 58, 47, 47]⟩ = schB t := by
  unfold sameB schB
  rw [decide_eq_true h, Bool.true_and, Lib.extract_data, List.drop_zero]
  rfl
theorem sch_head {t : ByteArray} (h : t.data.toList.head? = some 47) : schB t = false := by
  cases hl : t.data.toList with
  | nil => rw [hl] at h; cases h
  | cons c r =>
    rw [hl] at h
    obtain rfl := Option.some.inj h
    unfold schB
    rw [hl]
    simp [lowL, sch8, show lowU 47 = 47 from by decide]

set_option maxHeartbeats 2000000 in
set_option maxRecDepth 100000 in
/-- A target that begins with a slash. -/
theorem divide_a (t h : ByteArray) (w : World) (k : t.data.toList.head? = some 47) :
    Calls Tryz.prog 34 #[.string t, .string h] w fun e w' => e = .returned (.tuple #[.string h, .string t, .bool true]) ∧ Below w.heap.size w w' := by
  have cpre := fun W => Tryz.strings_HasPrefix t ⟨#[47]⟩ W
  rw [prefix_slash, k] at cpre
  have CPRE := Lib.hid cpre
  clear cpre k
  go_enter Tryz.func34, Tryz.ntmps34
  go_wp2_with (go_at_call 18; refine (CPRE.out _).mono ?_; rintro e w' ⟨rfl, rfl⟩)
  go_ret3
  exact ⟨rfl, Below.refl _ _⟩

set_option maxHeartbeats 2000000 in
set_option maxRecDepth 100000 in
/-- A target of neither form. -/
theorem divide_b (t h : ByteArray) (w : World) (k : t.data.toList.head? ≠ some 47) (hs : schB t = false) (ht : t.size ≤ 1000000) :
    Calls Tryz.prog 34 #[.string t, .string h] w fun e w' => e = .returned (.tuple #[.string ⟨#[]⟩, .string ⟨#[]⟩, .bool false]) ∧ Below w.heap.size w w' := by
  have cpre := fun W => Tryz.strings_HasPrefix t ⟨#[47]⟩ W
  rw [prefix_slash, beq_eq_false_iff_ne.2 k] at cpre
  have CPRE := Lib.hid cpre
  clear cpre k
  by_cases k7 : t.size < 7
  · have k7' : (t.size : Int) < 7 := by omega
    go_enter Tryz.func34, Tryz.ntmps34
    go_wp2_with (go_at_call 18; refine (CPRE.out _).mono ?_; rintro e w' ⟨rfl, rfl⟩)
    go_ret3
    exact ⟨rfl, Below.refl _ _⟩
  · have k7' : ¬ (t.size : Int) < 7 := by omega
    have k8 : (7 : Int) ≤ (t.size : Int) := by omega
    have cs := fun W => same_any (t.extract 0 7) ⟨#[104, 116, 116, 112, 58, 47, 47]⟩ W (by rw [ByteArray.size_extract]; unfold maxLen; omega) (by decide)
    rw [sch_same (by omega), hs] at cs
    have CS := Lib.hid cs
    clear cs hs
    go_enter Tryz.func34, Tryz.ntmps34
    go_wp2_with (first | (go_at_call 18; refine (CPRE.out _).mono ?_; rintro e w' ⟨rfl, rfl⟩) | (go_at_call 51; refine (CS.out _).mono ?_; rintro e w' ⟨rfl, hb⟩))
    go_ret3
    exact ⟨rfl, hb⟩

theorem slash_before (S : ByteArray) (h : S.data.toList.head? ≠ some 47) : (⟨#[47]⟩ : ByteArray) ++ S = mkS (rest8 S.data.toList) := by
  unfold rest8
  rw [if_neg h, show (⟨#[47]⟩ : ByteArray) = mkS [47] from rfl]
  conv => lhs; rw [← mkS_self S]
  rw [mkS_append]; rfl

set_option maxHeartbeats 4000000 in
set_option maxRecDepth 100000 in
/-- A target that begins with http://. -/
theorem divide_c (t h : ByteArray) (w : World) (hs : schB t = true) (ht : t.size ≤ 900000) :
    Calls Tryz.prog 34 #[.string t, .string h] w fun e w' => e = .returned (.tuple #[.string (parH t h), .string (mkS (parG t)), .bool true]) ∧ Below w.heap.size w w' := by
  obtain ⟨R, H, S, E, X⟩ := http8 t h hs
  have k47 : t.data.toList.head? ≠ some 47 := fun e => by rw [sch_head e] at hs; cases hs
  have k7 : 7 ≤ t.size := by
    unfold schB at hs
    rw [Bool.and_eq_true] at hs
    exact of_decide_eq_true hs.1
  have cpre := fun W => Tryz.strings_HasPrefix t ⟨#[47]⟩ W
  rw [prefix_slash, beq_eq_false_iff_ne.2 k47] at cpre
  have CPRE := Lib.hid cpre
  have k7' : ¬ (t.size : Int) < 7 := by omega
  have k8 : (7 : Int) ≤ (t.size : Int) := by omega
  have cs := fun W => same_any (t.extract 0 7) ⟨#[104, 116, 116, 112, 58, 47, 47]⟩ W (by rw [ByteArray.size_extract]; unfold maxLen; omega) (by decide)
  rw [sch_same k7, hs] at cs
  have CS := Lib.hid cs
  have ci := fun W => idxAny_any R W (by have := X.rs; omega)
  have hix := http_idx X
  have cp2 := fun W => Tryz.strings_HasPrefix S ⟨#[47]⟩ W
  rw [prefix_slash] at cp2
  have hR := Lib.hid X.re
  have hgl := X.gl
  have hhh := X.hh
  have hr7 : ∀ W, (Instr.slice 9 (.string t) (some (.int .i64 7)) none none).run Tryz.prog W = .ok (.string R) W := fun W => by
    rw [run_slice_string_l W 9 t Tryz.underlying9 .i64 7 (by omega) (by omega), ← X.re]; rfl
  have sl1 : ∀ W, (Instr.slice 9 (.string R) none (some (.int .i64 (E : Int))) none).run Tryz.prog W = .ok (.string H) W := fun W => by
    rw [run_slice_string_h W 9 R Tryz.underlying9 .i64 (E : Int) (by omega) (by have := X.er; omega), Int.toNat_natCast, X.a]
  have sl2 : ∀ W, (Instr.slice 9 (.string R) (some (.int .i64 (E : Int))) none none).run Tryz.prog W = .ok (.string S) W := fun W => by
    rw [run_slice_string_l W 9 R Tryz.underlying9 .i64 (E : Int) (by omega) (by have := X.er; omega), Int.toNat_natCast, X.z]
  have hS1 : (S.size : Int) ≤ 1000000 := by have := X.ss; omega
  have hres : Hid (S.data.toList.head? = some 47 → mkS (parG t) = S) := fun e => by
    rw [hgl]; unfold rest8; rw [if_pos e, mkS_self]
  have hres2 : Hid (S.data.toList.head? ≠ some 47 → mkS (parG t) = (⟨#[47]⟩ : ByteArray) ++ S) := fun e => by
    rw [hgl, slash_before S e]
  rw [← hhh]
  generalize mkS (parG t) = G at *
  generalize Lib.indexAny R.data.toList [47, 63] = I at *
  have CI := Lib.hid ci
  clear cpre cs ci hs k47 k7 hgl hhh
  by_cases h0 : S.size = 0
  · obtain ⟨hI, hE⟩ := hix.1 h0
    have hne : S.data.toList.head? ≠ some 47 := by
      have : S.data.toList = [] := by rw [← List.length_eq_zero_iff, ← Lib.size_eq]; exact h0
      rw [this]; simp
    have HG := Lib.hid (hres2.out hne)
    rw [beq_eq_false_iff_ne.2 hne] at cp2
    have CP2 := Lib.hid cp2
    subst hI
    rw [hE] at sl1 sl2
    clear cp2 hne hres hres2 hix X hE
    go_enter Tryz.func34, Tryz.ntmps34
    go_wp2_with (first | (go_at_call 18; refine (CPRE.out _).mono ?_; rintro e w' ⟨rfl, rfl⟩) | (go_at_call 51; refine (CS.out _).mono ?_; rintro e w1 ⟨rfl, hb1⟩) | (go_at_call 52; refine (CI.out _).mono ?_; rintro e w2 ⟨rfl, hb2⟩))
    go_quiet (fail)
    go_wp2_with (go_at_call 18; refine (CP2.out _).mono ?_; rintro e w' ⟨rfl, rfl⟩)
    go_ret3
    exact ⟨by rw [HG.out]; rfl, below_drawn (below_then hb1 hb2) _⟩
  · have hI := hix.2 (by omega)
    have h0E : (0 : Int) ≤ (E : Int) := by omega
    subst hI
    by_cases h47 : S.data.toList.head? = some 47
    · have HG := Lib.hid (hres.out h47)
      rw [h47] at cp2
      have CP2 := Lib.hid cp2
      clear cp2 h47 hres hres2 hix X
      go_enter Tryz.func34, Tryz.ntmps34
      go_wp2_with (first | (go_at_call 18; refine (CPRE.out _).mono ?_; rintro e w' ⟨rfl, rfl⟩) | (go_at_call 51; refine (CS.out _).mono ?_; rintro e w1 ⟨rfl, hb1⟩) | (go_at_call 52; refine (CI.out _).mono ?_; rintro e w2 ⟨rfl, hb2⟩))
      go_quiet (fail)
      go_wp2_with (go_at_call 18; refine (CP2.out _).mono ?_; rintro e w' ⟨rfl, rfl⟩)
      go_ret3
      exact ⟨by rw [HG.out]; rfl, below_drawn (below_then hb1 hb2) _⟩
    · have HG := Lib.hid (hres2.out h47)
      rw [beq_eq_false_iff_ne.2 h47] at cp2
      have CP2 := Lib.hid cp2
      clear cp2 h47 hres hres2 hix X
      go_enter Tryz.func34, Tryz.ntmps34
      go_wp2_with (first | (go_at_call 18; refine (CPRE.out _).mono ?_; rintro e w' ⟨rfl, rfl⟩) | (go_at_call 51; refine (CS.out _).mono ?_; rintro e w1 ⟨rfl, hb1⟩) | (go_at_call 52; refine (CI.out _).mono ?_; rintro e w2 ⟨rfl, hb2⟩))
      go_quiet (fail)
      go_wp2_with (go_at_call 18; refine (CP2.out _).mono ?_; rintro e w' ⟨rfl, rfl⟩)
      go_ret3
      exact ⟨by rw [HG.out]; rfl, below_drawn (below_then hb1 hb2) _⟩

end Go.Proofs.YtcmppmbieebkpaaGreatDoor
