/-
  Plain facts of layer 10: a status line cut at its first two spaces is the line that the page says.
-/
import Derived.Test.YtbmlldjkfpekkaaDoorLirY
import Derived.Lib.Join
namespace Go.Proofs.YtbmlldjkfpekkaaDoor
open Go.RowKit

/-- What the first two cuts of a line leave. -/
def ptA (s : ByteArray) : ByteArray := cutA s 32
def ptB (s : ByteArray) : ByteArray := cutA (cutZ s 32) 32
def ptC (s : ByteArray) : ByteArray := cutZ (cutZ s 32) 32
def ptK (s : ByteArray) : Bool := cutOk (cutZ s 32) 32
/-- A code's text. -/
def cdB (s : ByteArray) : Bool := ((numE 10 18 599 s.data.toList == 0) && decide (s.size = 3)) && decide (100 ≤ numN 10 18 599 s.data.toList)
def cdN (s : ByteArray) : Int := if cdB s then numN 10 18 599 s.data.toList else 0
def vrB (s : ByteArray) : Bool := decide (0 ≤ verI s)
def vrN (s : ByteArray) : Int := if vrB s then verI s else 0
def stQ (s : ByteArray) : Bool := ((ptK s && vrB (ptA s)) && cdB (ptB s)) && allB txtB (ptC s).data.toList

theorem ver_size {s : ByteArray} (h : 0 ≤ verI s) : s.size = 8 := by
  rcases ver_yes h with ⟨_, h⟩ | ⟨_, h⟩ <;> (rw [h]; decide +kernel)
theorem ver_no_space {s : ByteArray} (h : 0 ≤ verI s) : ∀ x ∈ s.data.toList, x ≠ 32 := by
  rcases ver_yes h with ⟨_, h⟩ | ⟨_, h⟩ <;> (rw [h, mkS_list]; decide)
theorem num_no_space {s : ByteArray} (h : numE 10 18 599 s.data.toList = 0) : ∀ x ∈ s.data.toList, x ≠ 32 := fun x hx e => by
  have h3 := (num_zero h).1
  unfold allB at h3
  rw [List.all_eq_true] at h3
  have := h3 x hx
  rw [e] at this
  exact absurd this (by decide)
theorem ext_parts {s : ByteArray} {F D Z : List UInt8} (h : s.data.toList = F ++ 32 :: (D ++ 32 :: Z)) (hF : F.length = 8) (hD : D.length = 3) :
    s.extract 0 8 = mkS F ∧ s.extract 9 12 = mkS D ∧ s.extract 13 s.size = mkS Z ∧ 13 ≤ s.size ∧ byteI s 8 = 32 ∧ byteI s 12 = 32 := by
  have hsz : s.size = 13 + Z.length := by rw [Lib.size_eq, h]; simp only [List.length_append, List.length_cons]; omega
  have d9 : s.data.toList.drop 9 = D ++ 32 :: Z := by
    rw [h, List.drop_append, List.drop_eq_nil_of_le (by omega), hF]; rfl
  have d12 : s.data.toList.drop 12 = 32 :: Z := by
    have : s.data.toList.drop 12 = (s.data.toList.drop 9).drop 3 := by rw [List.drop_drop]
    rw [this, d9, List.drop_append, List.drop_eq_nil_of_le (by omega), hD]; rfl
  have d13 : s.data.toList.drop 13 = Z := by
    have : s.data.toList.drop 13 = (s.data.toList.drop 12).drop 1 := by rw [List.drop_drop]
    rw [this, d12]; rfl
  have b8 : s.data.toList[8]? = some 32 := by
    rw [h, List.getElem?_append_right (by omega), hF]; rfl
  have b12 : s.data.toList[12]? = some 32 := by
    have : (s.data.toList.drop 12)[0]? = s.data.toList[12]? := by rw [List.getElem?_drop]
    rw [← this, d12]; rfl
  refine ⟨?_, ?_, ?_, by omega, ?_, ?_⟩
  · rw [← mkS_self (s.extract 0 8), ext_list, List.drop_zero, Nat.sub_zero, h, ← hF, List.take_left']
    rfl
  · rw [← mkS_self (s.extract 9 12), ext_list, d9, show 12 - 9 = D.length by omega, List.take_left']
    rfl
  · rw [← mkS_self (s.extract 13 s.size), ext_list, d13, List.take_of_length_le (by omega)]
  · unfold byteI; rw [b8]; rfl
  · unfold byteI; rw [b12]; rfl

theorem st_parts {s : ByteArray} (h : stO s = true) : ptA s = s.extract 0 8 ∧ ptB s = s.extract 9 12 ∧ ptC s = stR s ∧ ptK s = true ∧ stQ s = true := by
  have hO := h
  unfold stO stH at hO
  simp only [Bool.and_eq_true, decide_eq_true_eq] at hO
  obtain ⟨⟨⟨⟨h13, hv⟩, _⟩, _⟩, ⟨hX, hC⟩, hT⟩ := hO
  have hX : numE 10 18 599 (s.extract 9 12).data.toList = 0 := eq_of_beq hX
  obtain ⟨hp, _, _, _⟩ := st_print h
  have hl := congrArg (fun x : ByteArray => x.data.toList) hp
  simp only [pst_list, ← ver_list hv] at hl
  obtain ⟨a1, a2, _⟩ := lin_cut hl.symm (ver_no_space hv)
  obtain ⟨n1, n2, n3⟩ := num_zero hX
  have n2 : stC s = valV 10 (s.extract 9 12).data.toList := n2
  have l3 : (s.extract 9 12).data.toList.length = 3 := by rw [ext_list, List.length_take, List.length_drop, ← Lib.size_eq]; omega
  have hpl : plainL (stC s) = (s.extract 9 12).data.toList := by
    rw [n2]
    exact digs_three l3 n1 (by rw [← n2]; exact hC)
  rw [hpl] at a2
  have hZ : (cutZ s 32).data.toList = (s.extract 9 12).data.toList ++ 32 :: (stR s).data.toList := by rw [a2, mkS_list]
  obtain ⟨b1, b2, b3⟩ := lin_cut hZ (num_no_space hX)
  have e1 : ptA s = s.extract 0 8 := by unfold ptA; rw [a1, mkS_self]
  have e2 : ptB s = s.extract 9 12 := by unfold ptB; rw [b1, mkS_self]
  have e3 : ptC s = stR s := by unfold ptC; rw [b2, mkS_self]
  refine ⟨e1, e2, e3, b3, ?_⟩
  unfold stQ vrB cdB
  have z3 : (s.extract 9 12).size = 3 := by rw [Lib.size_eq]; exact l3
  rw [e1, e2, e3, show ptK s = true from b3, decide_eq_true hv, hX, decide_eq_true z3, hT, decide_eq_true (show 100 ≤ numN 10 18 599 (s.extract 9 12).data.toList from hC)]
  rfl
theorem st_of_parts {s : ByteArray} (h : stQ s = true) : stO s = true := by
  unfold stQ vrB cdB at h
  simp only [Bool.and_eq_true, decide_eq_true_eq] at h
  obtain ⟨⟨⟨k, hv⟩, ⟨hX, h3⟩, hC⟩, hT⟩ := h
  have k1 : cutOk s 32 = true := by
    cases e : cutOk s 32 with
    | true => rfl
    | false =>
      exfalso
      have hz := (lin_cut_no e).2
      unfold ptK at k
      rw [hz] at k
      exact absurd k (by decide +kernel)
  have e1 := lin_cut_yes k1
  have e2 := lin_cut_yes k
  rw [e2] at e1
  obtain ⟨p1, p2, p3, p4, p5, p6⟩ := ext_parts e1 (by rw [← Lib.size_eq]; exact ver_size hv) (by rw [← Lib.size_eq]; exact h3)
  rw [mkS_self] at p1 p2 p3
  unfold stO stH stX stC stR
  rw [p1, p2, p3, p5, p6]
  have q1 : (numE 10 18 599 (cutA (cutZ s 32) 32).data.toList == 0) = true := hX
  have q2 : allB txtB (cutZ (cutZ s 32) 32).data.toList = true := hT
  rw [decide_eq_true p4, decide_eq_true (show 0 ≤ verI (cutA s 32) from hv), q1, q2, decide_eq_true (show 100 ≤ numN 10 18 599 (cutA (cutZ s 32) 32).data.toList from hC)]
  rfl
theorem st_by_parts (s : ByteArray) : stO s = stQ s := by
  cases e : stO s with
  | true => exact (st_parts e).2.2.2.2.symm
  | false =>
    cases e2 : stQ s with
    | false => rfl
    | true => rw [st_of_parts e2] at e; cases e
/-- What Status answers, by the two cuts. -/
theorem st_ans_yes {s : ByteArray} (hl : ¬ 8192 < s.size) (h : stQ s = true) : stN s = cdN (ptB s) ∧ stB s = ptC s ∧ stV' s = vrN (ptA s) ∧ stE s = 0 := by
  have ho := st_of_parts h
  obtain ⟨e1, e2, e3, _⟩ := st_parts ho
  obtain ⟨y1, y2, y3, y4⟩ := st_yes hl ho
  unfold stQ at h
  simp only [Bool.and_eq_true] at h
  refine ⟨?_, ?_, ?_, y4⟩
  · rw [y1]; unfold cdN; rw [if_pos h.1.2, e2]; rfl
  · rw [y2, e3]
  · rw [y3]; unfold vrN; rw [if_pos h.1.1.2, e1]
theorem st_ans_no {s : ByteArray} (hl : ¬ 8192 < s.size) (h : stQ s = false) : stN s = 0 ∧ stB s = ⟨#[]⟩ ∧ stV' s = 0 ∧ stE s = 20 := st_no hl (by rw [st_by_parts]; exact h)
/-- What Request answers, by the two cuts. -/
def shB (s : ByteArray) : Bool := allB visB s.data.toList && !s.toList.isEmpty
def rqQ (s : ByteArray) : Bool := (vrB (ptC s) && tokS (ptA s)) && shB (ptB s)
theorem rq_by_parts (s : ByteArray) : rqO s = rqQ s := by
  unfold rqO rqH rqQ vrB shB
  show (((tokS (ptA s) && !(ptB s).toList.isEmpty) && decide (0 ≤ verI (ptC s))) && allB visB (ptB s).data.toList) = _
  generalize tokS (ptA s) = a
  generalize (ptB s).toList.isEmpty = b
  generalize decide (0 ≤ verI (ptC s)) = c
  generalize allB visB (ptB s).data.toList = d
  cases a <;> cases b <;> cases c <;> cases d <;> rfl
theorem rq_ans_yes {s : ByteArray} (hl : ¬ 8192 < s.size) (h : rqQ s = true) : rqA s = ptA s ∧ rqB s = ptB s ∧ rqV s = vrN (ptC s) ∧ rqE s = 0 := by
  obtain ⟨y1, y2, y3, y4⟩ := rq_yes hl ((rq_by_parts s).trans h)
  unfold rqQ at h
  simp only [Bool.and_eq_true] at h
  refine ⟨y1, y2, ?_, y4⟩
  rw [y3]; unfold vrN; rw [if_pos h.1.1]; rfl
theorem rq_ans_no {s : ByteArray} (hl : ¬ 8192 < s.size) (h : rqQ s = false) : rqA s = ⟨#[]⟩ ∧ rqB s = ⟨#[]⟩ ∧ rqV s = 0 ∧ rqE s = 20 := rq_no hl ((rq_by_parts s).trans h)

/-! ### What is printed, as a join -/
def verS (n : Int) : ByteArray := (⟨#[72, 84, 84, 80, 47, 49, 46]⟩ : ByteArray) ++ mkS (plainL n)
theorem verS_list (n : Int) : (verS n).data.toList = [72, 84, 84, 80, 47, 49, 46] ++ plainL n := by
  unfold verS; rw [append_list, mkS_list]
theorem verS_0 : verS 0 = mkS ht0 := by decide +kernel
theorem verS_1 : verS 1 = mkS ht1 := by decide +kernel
theorem join_three (a b c : List UInt8) : Lib.join [a, b, c] [32] = a ++ 32 :: (b ++ 32 :: c) := by
  simp [Lib.join, List.intercalate]
theorem prq_join (m t : ByteArray) (v : Int) : mkS (Lib.join [m.data.toList, t.data.toList, (verS v).data.toList] [32]) = prqS m t v := by
  rw [join_three, verS_list, ← prq_list, mkS_self]
theorem pst_join (c : Int) (r : ByteArray) (v : Int) : mkS (Lib.join [(verS v).data.toList, (mkS (plainL c)).data.toList, r.data.toList] [32]) = pstS c r v := by
  rw [join_three, verS_list, mkS_list, ← pst_list, mkS_self]

end Go.Proofs.YtbmlldjkfpekkaaDoor
