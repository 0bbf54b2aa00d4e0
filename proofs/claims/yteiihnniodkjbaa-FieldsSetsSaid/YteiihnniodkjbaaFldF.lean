/-
  Contracts of package fields' Set, Same, Check, Parse.
-/
import Derived.Test.YteiihnniodkjbaaFldE
import Derived.Test.YteiihnniodkjbaaFldI
import Derived.Test.YteiihnniodkjbaaComX
namespace Go.Proofs.Yteiihnniodkjbaa
open Go.RowKit

theorem same_fields (A B : Option Addr) (n c m d : Nat) (L M : List Fd) (w : World) (h : SlF w A n c L) (h' : SlF w B m d M) (hn : n ≤ 100000000) (hB : ∀ x ∈ L, Bd x) (hB' : ∀ x ∈ M, Bd x) :
    Calls Try.prog 28 #[.slice A n c, .slice B m d] w fun e w' => e = .returned (.bool (bth L M)) ∧ Below w.heap.size w w' := by
  have hq := equalF_any A B n c m d L M w h h' (by omega) hB hB' 53 #[] alk enters_alike (alike_pred w)
  have hD : bth L M = bthP alk L M := rfl
  rw [hD]
  generalize bthP alk L M = R at *
  have HQ := Lib.hid hq
  clear hq hD
  go_enter Try.func28, Try.ntmps28
  go_wp2_with fail
  refine HQ.out.mono ?_
  rintro e w1 ⟨rfl, hb1⟩
  go_wp2_with fail
  go_ret
  exact ⟨rfl, hb1⟩

theorem chkF_any (A : Option Addr) (n c : Nat) (L : List Fd) (w : World) (h : SlF w A n c L) (hn : n ≤ 100000000) (hB : ∀ x ∈ L, Bd x) :
    Calls Try.prog 14 #[.slice A n c] w fun e w' => e = .returned (.int .i64 (chkN L)) ∧ Below w.heap.size w w' := by
  have hlen := h.len
  have hb1 : Below w.heap.size w (w.alloc (.cells #[.func (.func 33) #[] #[]] 53)) := (Below.refl _ _).alloc (Nat.le_refl _) _
  have p1 := not_pred (w.alloc (.cells #[.func (.func 33) #[] #[]] 53)) w.heap.size 33 #[] prpF (zero_one (heap_alloc_new w _)) enters_proper (proper_pred _)
  have q1 := idxF_has A n c L _ (h.below hb1) (by omega) hB 62 _ _ enters_not p1
  have q2 := fun W (hb : Below w.heap.size w W) => idxF_has A n c L W (h.below hb) (by omega) hB 40 #[] lngF enters_long (long_pred W)
  have hD : chkN L = if 64 < L.length then 4 else if L.any (fun x => !prpF x) then 21 else if L.any lngF then 4 else 0 := rfl
  rw [hD, hlen]
  generalize (L.any fun x => !prpF x) = X at *
  generalize L.any lngF = Y at *
  have Q1 := Lib.hid q1
  have Q2 := Lib.hid q2
  clear q1 q2 p1 hD h hlen
  by_cases h64 : 64 < n
  · rw [if_pos h64]
    have h64' : (64 : Int) < (n : Int) := by omega
    go_enter Try.func14, Try.ntmps14
    go_wp2_with fail
    go_ret
    exact ⟨rfl, Below.refl _ _⟩
  · rw [if_neg h64]
    have h64' : ¬ (64 : Int) < (n : Int) := by omega
    cases X
    · cases Y
      all_goals
        go_enter Try.func14, Try.ntmps14
        go_wp2_with fail
        refine (not_any _ _ _ rfl _).mono ?_
        rintro e w1 ⟨rfl, rfl⟩
        go_wp2_with fail
        refine Q1.out.mono ?_
        rintro e w1 ⟨rfl, hb2⟩
        go_wp2_with fail
        refine (Q2.out _ (zero_then hb2)).mono ?_
        rintro e w2 ⟨rfl, hb3⟩
        go_wp2_with fail
        go_ret
        exact ⟨rfl, below_then (zero_then hb2) hb3⟩
    · go_enter Try.func14, Try.ntmps14
      go_wp2_with fail
      refine (not_any _ _ _ rfl _).mono ?_
      rintro e w1 ⟨rfl, rfl⟩
      go_wp2_with fail
      refine Q1.out.mono ?_
      rintro e w1 ⟨rfl, hb2⟩
      go_wp2_with fail
      go_ret
      exact ⟨rfl, zero_then hb2⟩

/-! ### Parse -/
def flT (s : ByteArray) : Fd := (cutA s 58, mkS (trimL (cutZ s 58).data.toList))
def flO (s : ByteArray) : Bool := cutOk s 58 && ((!(flT s).1.toList.isEmpty && allB tokB (flT s).1.data.toList) && allB txtB (flT s).2.data.toList)
def flF (s : ByteArray) : Fd := if 8192 < s.size then (⟨#[]⟩, ⟨#[]⟩) else if flO s then flT s else (⟨#[]⟩, ⟨#[]⟩)
def flX (s : ByteArray) : Int := if 8192 < s.size then 4 else if flO s then 0 else 21
theorem fl_prp (s : ByteArray) : (cutOk s 58 && prpF (flT s)) = flO s := by
  have h : ((mkS (trimL (flT s).2.data.toList)).toList == (flT s).2.toList) = true := by
    show ((mkS (trimL (mkS (trimL (cutZ s 58).data.toList)).data.toList)).toList == (mkS (trimL (cutZ s 58).data.toList)).toList) = true
    rw [mkS_list, trim_of_edge (trim_edge _)]
    simp
  unfold prpF flO
  rw [h, Bool.and_true]
theorem fl_no {s : ByteArray} (h : ¬ 8192 < s.size) (ho : flO s = false) : flF s = (⟨#[]⟩, ⟨#[]⟩) ∧ flX s = 21 := by simp [flF, flX, h, ho]
theorem fl_yes {s : ByteArray} (h : ¬ 8192 < s.size) (ho : flO s = true) : flF s = flT s ∧ flX s = 0 := by simp [flF, flX, h, ho]
theorem fl_long {s : ByteArray} (h : 8192 < s.size) : flF s = (⟨#[]⟩, ⟨#[]⟩) ∧ flX s = 4 := by simp [flF, flX, h]
theorem fd_cells {W : World} {g t : Nat} {c0 c1 : Value} (h : W.heap[g]? = some (.cells #[c0, c1] t (0, 0))) :
    W.cell? ⟨g, 0, none⟩ = some c0 ∧ W.cell? ⟨g, 1, none⟩ = some c1 ∧ W.frozen? ⟨g, 0, none⟩ = false ∧ W.frozen? ⟨g, 1, none⟩ = false := by
  refine ⟨(zero_two h).1, (zero_two h).2, ?_, ?_⟩
  all_goals simp [World.frozen?, h]
theorem fd_set {W : World} {g t : Nat} {d0 d1 c0 c1 : Value} (h : W.heap[g]? = some (.cells #[d0, d1] t (0, 0))) :
    ((W.setCell ⟨g, 0, none⟩ c0).setCell ⟨g, 1, none⟩ c1).heap[g]? = some (.cells #[c0, c1] t (0, 0)) := by
  simp [World.setCell, Array.getElem?_modify, h]
theorem below_set2 {B g : Nat} {w W : World} {c0 c1 : Value} (h : Below B w W) (hg : B ≤ g) : Below B w ((W.setCell ⟨g, 0, none⟩ c0).setCell ⟨g, 1, none⟩ c1) :=
  (h.setCell (p := ⟨g, 0, none⟩) hg _).setCell (p := ⟨g, 1, none⟩) hg _
theorem flA_le (s : ByteArray) (c : Int) : (cutA s c).size ≤ s.size := by
  unfold cutA
  split
  · exact Nat.le_refl _
  · rw [ByteArray.size_extract]; omega
theorem flZ_le (s : ByteArray) (c : Int) : (cutZ s c).size ≤ s.size := by
  unfold cutZ
  split
  · exact Nat.zero_le _
  · rw [ByteArray.size_extract]; omega
theorem rdw_le (l : List UInt8) : (rdw l).length ≤ l.length := (rdw_prefix l).length_le
theorem trim_le (l : List UInt8) : (trimL l).length ≤ l.length := Nat.le_trans (rdw_le _) (List.IsSuffix.length_le (List.dropWhile_suffix _))
theorem flT_le (s : ByteArray) : (flT s).1.size ≤ s.size ∧ (flT s).2.size ≤ s.size := by
  refine ⟨flA_le s 58, ?_⟩
  show (mkS (trimL (cutZ s 58).data.toList)).size ≤ _
  rw [mkS_size]
  refine Nat.le_trans (trim_le _) ?_
  rw [← Lib.size_eq]
  exact flZ_le s 58

set_option maxHeartbeats 4000000 in
set_option maxRecDepth 100000 in
theorem parse_any (s : ByteArray) (w : World) (hs : s.size ≤ maxLen) :
    Calls Try.prog 10 #[.string s] w fun e w' => e = .returned (.tuple #[fdV (flF s), .int .i64 (flX s)]) ∧ Below w.heap.size w w' := by
  have hz0 : (w.alloc (.cells #[.string ⟨#[]⟩, .string ⟨#[]⟩] 26)).heap[w.heap.size]? = some (.cells #[.string ⟨#[]⟩, .string ⟨#[]⟩] 26 (0, 0)) := heap_alloc_new w _
  have hb0 : Below w.heap.size w (w.alloc (.cells #[.string ⟨#[]⟩, .string ⟨#[]⟩] 26)) := (Below.refl _ _).alloc (Nat.le_refl _) _
  have HZ := Lib.hid hz0
  have HB := Lib.hid hb0
  by_cases hl : 8192 < s.size
  · have HR := Lib.hid (fl_long hl)
    have hl' : (8192 : Int) < (s.size : Int) := by omega
    clear hz0 hb0 hl
    go_enter Try.func10, Try.ntmps10
    go_wp2_with fail
    refine bodyPost_ret (results_cell_row_tmp rfl _ _ w.heap.size 26 #[.string ⟨#[]⟩, .string ⟨#[]⟩] (0, 0) _ rfl HZ.out Try.underlying26 rfl (by kernel_rfl)) rfl ?_
    exact ⟨by rw [HR.out.1, HR.out.2]; rfl, HB.out⟩
  · have hl' : ¬ (8192 : Int) < (s.size : Int) := by omega
    have cc := fun W => cut_any s 58 W hs (by decide) (by decide)
    have hZs : (cutZ s 58).size ≤ maxLen := Nat.le_trans (flZ_le s 58) hs
    have ct := fun W => trim_any (cutZ s 58) W hZs
    have cp := fun W => proper_any (flT s) (Nat.le_trans (flT_le s).1 hs) (Nat.le_trans (flT_le s).2 hs) W
    have hno := fun h => fl_no (s := s) hl h
    have hye := fun h => fl_yes (s := s) hl h
    have hpr := fl_prp s
    have hT : flT s = (cutA s 58, mkS (trimL (cutZ s 58).data.toList)) := rfl
    rw [hT] at cp hye hpr
    unfold fdV at cp
    generalize cutA s 58 = a at *
    generalize mkS (trimL (cutZ s 58).data.toList) = b at *
    generalize cutZ s 58 = z at *
    generalize cutOk s 58 = ok at *
    generalize prpF (a, b) = pr at *
    have CC := Lib.hid cc
    have CT := Lib.hid ct
    have CP := Lib.hid cp
    clear cc ct cp hT hZs hl hz0 hb0
    cases ok
    · have HR := Lib.hid (hno (by rw [← hpr]; rfl))
      clear hno hye hpr
      go_enter Try.func10, Try.ntmps10
      go_wp2_with fail
      refine (CC.out _).mono ?_
      rintro e w1 ⟨rfl, hb1⟩
      have HZ1 := Lib.hid (zero_still hb1 HZ.out)
      have HB1 := Lib.hid (below_then HB.out hb1)
      clear hb1
      go_wp2_with fail
      refine (CT.out _).mono ?_
      rintro e w2 ⟨rfl, hb2⟩
      have HZ2 := Lib.hid (zero_still hb2 HZ1.out)
      have HZ3 := Lib.hid (zero_more (o' := .cells #[.string a, .string b] 26) HZ2.out)
      have HB2 := Lib.hid ((below_then HB1.out hb2).alloc (below_then HB1.out hb2).size (.cells #[.string a, .string b] 26))
      obtain ⟨z0, z1, y0, y1⟩ := fd_cells HZ3.out
      clear hb2
      go_wp2_with fail
      refine bodyPost_ret (results_cell_row_tmp rfl _ _ w.heap.size 26 #[.string ⟨#[]⟩, .string ⟨#[]⟩] (0, 0) _ rfl (fd_set HZ3.out) Try.underlying26 rfl (by kernel_rfl)) rfl ?_
      exact ⟨by rw [HR.out.1, HR.out.2]; rfl, below_set2 HB2.out (Nat.le_refl _)⟩
    · cases pr
      · have HR := Lib.hid (hno (by rw [← hpr]; rfl))
        clear hno hye hpr
        go_enter Try.func10, Try.ntmps10
        go_wp2_with fail
        refine (CC.out _).mono ?_
        rintro e w1 ⟨rfl, hb1⟩
        have HZ1 := Lib.hid (zero_still hb1 HZ.out)
        have HB1 := Lib.hid (below_then HB.out hb1)
        clear hb1
        go_wp2_with fail
        refine (CT.out _).mono ?_
        rintro e w2 ⟨rfl, hb2⟩
        have HZ2 := Lib.hid (zero_still hb2 HZ1.out)
        have HZ3 := Lib.hid (zero_more (o' := .cells #[.string a, .string b] 26) HZ2.out)
        have HB2 := Lib.hid ((below_then HB1.out hb2).alloc (below_then HB1.out hb2).size (.cells #[.string a, .string b] 26))
        clear hb2
        go_wp2_with fail
        refine (CP.out _).mono ?_
        rintro e w3 ⟨rfl, hb3⟩
        have HZ4 := Lib.hid (zero_still hb3 HZ3.out)
        have HB3 := Lib.hid (below_then HB2.out hb3)
        obtain ⟨z0, z1, y0, y1⟩ := fd_cells HZ4.out
        clear hb3
        go_wp2_with fail
        refine bodyPost_ret (results_cell_row_tmp rfl _ _ w.heap.size 26 #[.string ⟨#[]⟩, .string ⟨#[]⟩] (0, 0) _ rfl (fd_set HZ4.out) Try.underlying26 rfl (by kernel_rfl)) rfl ?_
        exact ⟨by rw [HR.out.1, HR.out.2]; rfl, below_set2 HB3.out (Nat.le_refl _)⟩
      · have HR := Lib.hid (hye (by rw [← hpr]; rfl))
        clear hno hye hpr
        go_enter Try.func10, Try.ntmps10
        go_wp2_with fail
        refine (CC.out _).mono ?_
        rintro e w1 ⟨rfl, hb1⟩
        have HZ1 := Lib.hid (zero_still hb1 HZ.out)
        have HB1 := Lib.hid (below_then HB.out hb1)
        clear hb1
        go_wp2_with fail
        refine (CT.out _).mono ?_
        rintro e w2 ⟨rfl, hb2⟩
        have HZ2 := Lib.hid (zero_still hb2 HZ1.out)
        have HZ3 := Lib.hid (zero_more (o' := .cells #[.string a, .string b] 26) HZ2.out)
        have HV3 := Lib.hid (heap_alloc_new w2 (.cells #[.string a, .string b] 26))
        have HB2 := Lib.hid ((below_then HB1.out hb2).alloc (below_then HB1.out hb2).size (.cells #[.string a, .string b] 26))
        clear hb2
        go_wp2_with fail
        refine (CP.out _).mono ?_
        rintro e w3 ⟨rfl, hb3⟩
        have HZ4 := Lib.hid (zero_still hb3 HZ3.out)
        have HB3 := Lib.hid (below_then HB2.out hb3)
        obtain ⟨z0, z1, y0, y1⟩ := fd_cells HZ4.out
        obtain ⟨v0, v1⟩ := zero_two (zero_still hb3 HV3.out)
        clear hb3
        go_wp2_with fail
        refine bodyPost_ret (results_cell_row_tmp rfl _ _ w.heap.size 26 #[.string a, .string b] (0, 0) _ rfl (fd_set HZ4.out) Try.underlying26 rfl (by kernel_rfl)) rfl ?_
        exact ⟨by rw [HR.out.1, HR.out.2]; rfl, below_set2 HB3.out (Nat.le_refl _)⟩

/-! ### Set -/
theorem set_place (L : List Fd) (f : Fd) : (idxP (fun x => sameB x.1 f.1) L = -1 ∧ fdSet L f = (fdDrop L [f.1.data.toList]).take (fdDrop L [f.1.data.toList]).length ++ [f] ++ (fdDrop L [f.1.data.toList]).drop (fdDrop L [f.1.data.toList]).length) ∨
    ∃ i : Nat, idxP (fun x => sameB x.1 f.1) L = i ∧ i ≤ (fdDrop L [f.1.data.toList]).length ∧ fdSet L f = (fdDrop L [f.1.data.toList]).take i ++ [f] ++ (fdDrop L [f.1.data.toList]).drop i := by
  have hD : fdDrop L [f.1.data.toList] = L.filter fun x => !sameB x.1 f.1 := by
    unfold fdDrop
    rw [nmd_one']
  rw [hD]
  rcases idxP_cases (fun x => sameB x.1 f.1) L with ⟨h1, h2⟩ | ⟨i, hi, h1, h2, h3⟩
  · refine .inl ⟨h1, ?_⟩
    rw [List.take_length, List.drop_length, List.append_nil]
    exact set_none f L h2
  · obtain ⟨h4, h5⟩ := set_at f L i hi h3 h2
    exact .inr ⟨i, h1, h4, h5⟩

set_option maxHeartbeats 4000000 in
set_option maxRecDepth 100000 in
theorem setF_any (A : Option Addr) (n c : Nat) (L : List Fd) (f : Fd) (w : World) (h : SlF w A n c L) (hn : n ≤ 10000000) (hB : ∀ x ∈ L, Bd x) (hf : Bd f) :
    Calls Try.prog 26 #[.slice A n c, fdV f] w fun e w' => ∃ v, e = .returned v ∧ OwnF w' w.heap.size 26 v (fdSet L f) ∧ Below w.heap.size w w' := by
  have hpl := set_place L f
  have hb0 : Below w.heap.size w (w.alloc (.cells #[.string f.1, .string f.2] 26)) := (Below.refl _ _).alloc (Nat.le_refl _) _
  have hb1 : Below w.heap.size w ((w.alloc (.cells #[.string f.1, .string f.2] 26)).alloc (.cells #[.string f.1] 9)) := hb0.alloc (by simp) _
  have hs1 : ((w.alloc (.cells #[.string f.1, .string f.2] 26)).alloc (.cells #[.string f.1] 9)).heap.size = w.heap.size + 2 := by simp
  have hnl : ∀ x ∈ [f.1.data.toList], x.length ≤ maxLen := fun x hx => by
    simp only [List.mem_singleton] at hx
    subst hx
    rw [← Lib.size_eq]; exact hf.one
  have h0 : ((w.alloc (.cells #[.string f.1, .string f.2] 26)).alloc (.cells #[.string f.1] 9)).heap[w.heap.size]? = some (.cells #[.string f.1, .string f.2] 26 (0, 0)) := heap_alloc2_old w _ _
  have hss : SlS ((w.alloc (.cells #[.string f.1, .string f.2] 26)).alloc (.cells #[.string f.1] 9)) (some ⟨w.heap.size + 1, 0, none⟩) 1 1 [f.1.data.toList] := SlS.textAt _ _ f.1 (by simp)
  have q1 := drop_any A (some ⟨w.heap.size + 1, 0, none⟩) n c 1 1 L [f.1.data.toList] _ (h.below hb1) (by omega) hB hss hnl (by decide)
  have q2 := fun W (hb : Below w.heap.size w W) => idxF_any A n c L ((W.alloc (.cells #[.string f.1] 9)).alloc (.cells #[.slice (some ⟨W.heap.size, 0, none⟩) 1 1] 39)) ((h.below hb).alloc _ |>.alloc _) (by omega) hB 64 #[.pointer (some ⟨W.heap.size + 1, 0, none⟩)] (fun x => sameB x.1 f.1) enters_named (by
    have := named_pred ((W.alloc (.cells #[.string f.1] 9)).alloc (.cells #[.slice (some ⟨W.heap.size, 0, none⟩) 1 1] 39)) (W.heap.size + 1) _ 1 1 [f.1.data.toList] (zero_one (heap_alloc2_new W _ _)) ((SlS.text W 9 f.1).alloc _) hnl (by decide)
    rwa [nmd_one'] at this)
  have hXl : (fdDrop L [f.1.data.toList]).length ≤ 10000000 := Nat.le_trans (List.length_filter_le _ _) (by have := h.len; omega)
  have hfm : f.1.size ≤ maxLen ∧ f.2.size ≤ maxLen := ⟨hf.one, hf.two⟩
  generalize fdDrop L [f.1.data.toList] = X at *
  generalize fdSet L f = S at *
  generalize idxP (fun x => sameB x.1 f.1) L = P at *
  have Q1 := Lib.hid q1
  have Q2 := Lib.hid q2
  have HB1 := Lib.hid hb1
  have H0 := Lib.hid h0
  have HS1 := Lib.hid hs1
  obtain ⟨a, b⟩ := f
  unfold fdV
  have hfin : ∀ (vv : Value) (i : Nat) (W : World) (k : Nat), k = w.heap.size + 2 → S = X.take i ++ [(a, b)] ++ X.drop i → i ≤ X.length → OwnF W k 26 vv X → k ≤ W.heap.size → Below w.heap.size w W →
      Calls Try.prog 51 #[vv, .int .i64 i, .slice (some ⟨W.heap.size, 0, none⟩) 1 1] (W.alloc (.cells #[.string a, .string b] 26)) fun e w' => ∃ v, e = .returned v ∧ OwnF w' w.heap.size 26 v S ∧ Below w.heap.size w w' := fun vv i W k hk hS hi ho hkW hbW => by
    refine (insert_any k vv X (a, b) i W.heap.size 26 (W.alloc (.cells #[.string a, .string b] 26)) (ho.alloc _) hi (by omega) (by simp; omega) hfm (heap_alloc_new W _) (fun g hg => ?_)).mono ?_
    · have := (World.ownsRow.lt ho g hg).2
      omega
    · rintro e w' ⟨v', rfl, ho', hb'⟩
      rw [← hS] at ho'
      have hsW := hbW.size
      exact ⟨v', rfl, ho'.wide (by omega), (hbW.alloc hsW _).trans (hb'.mono (by omega))⟩
  have FIN := Lib.hid hfin
  clear hfin q1 q2 hb0 hb1 hs1 h0 hss hnl h hB hf hfm
  rcases hpl with ⟨hP, hS⟩ | ⟨i, hP, hi, hS⟩
  all_goals
    subst hP
    have HSS := Lib.hid hS
    clear hS
    go_enter Try.func26, Try.ntmps26
    go_wp2_with fail
    refine Q1.out.mono ?_
    rintro e w2 ⟨v, rfl, ho, hb2⟩
    have HZ2 := Lib.hid (zero_still hb2 H0.out)
    have hbw2 := HB1.out.trans (hb2.mono (by rw [HS1.out]; omega))
    have hsz2 : w.heap.size + 2 ≤ w2.heap.size := by have := hb2.size; rw [HS1.out] at this; exact this
    have HBW2 := Lib.hid hbw2
    rw [HS1.out] at ho
    have HO2 := Lib.hid ho
    obtain ⟨z0, z1⟩ := zero_two HZ2.out
    clear ho hb2 hbw2
    go_wp2_with fail
    refine (named_any _ 1 1 _ rfl _).mono ?_
    rintro e w3 ⟨rfl, rfl⟩
    go_wp2_with fail
    refine (Q2.out _ HBW2.out).mono ?_
    rintro e w4 ⟨rfl, hb4⟩
    have HB4 := Lib.hid (zero_then (zero_then hb4))
    have HZ4 := Lib.hid (zero_still HB4.out HZ2.out)
    have HO4 := Lib.hid (HO2.out.below HB4.out)
    have HBW4 := Lib.hid (HBW2.out.trans (HB4.out.mono (by omega)))
    have hsz4 : w.heap.size + 2 ≤ w4.heap.size := Nat.le_trans hsz2 HB4.out.size
    obtain ⟨A1, c1, hv1⟩ := HO2.out.form
    subst hv1
    obtain ⟨y0, y1⟩ := zero_two HZ4.out
    clear hb4 HO2 HZ2
    go_wp2_with fail
    refine (FIN.out _ _ w4 _ rfl HSS.out (by omega) HO4.out hsz4 HBW4.out).mono ?_
    rintro e w5 ⟨v5, rfl, ho5, hb5⟩
    go_wp2_with fail
    go_ret
    exact ⟨_, rfl, ho5, hb5⟩

end Go.Proofs.Yteiihnniodkjbaa
