/-
  Contract of straighten of package target: dot segments.
-/
import Derived.Test.YtcmppmbieebkpaaGreatDoorTgtS
import Derived.WalkSmall
namespace Go.Proofs.YtcmppmbieebkpaaGreatDoor
open Go.RowKit

/-- One segment more, as the code keeps it. -/
def keepS (st : List (List UInt8)) (x : List UInt8) : List (List UInt8) := if x = [46, 46] then st.dropLast else if x = [46] then st else st ++ [x]
def dotB (x : List UInt8) : Bool := x == [46] || x == [46, 46]
def lastD (L : List (List UInt8)) : Bool := match L.getLast? with | some x => dotB x | none => false
def endS (st : List (List UInt8)) (d : Bool) : List (List UInt8) := if d then st ++ [[]] else st
theorem segN_false (st : List (List UInt8)) (x : List UInt8) : segN st x false = keepS st x := by
  unfold segN keepS; simp
theorem segN_true (st : List (List UInt8)) (x : List UInt8) : segN st x true = endS (keepS st x) (dotB x) := by
  unfold segN keepS endS dotB
  by_cases h2 : x = [46, 46]
  · subst h2; simp
  · by_cases h1 : x = [46]
    · subst h1; simp
    · simp [h1, h2]
theorem segF_keep : ∀ (L st : List (List UInt8)), segF st L = endS (L.foldl keepS st) (lastD L)
  | [], st => by simp [segF, endS, lastD]
  | [x], st => by simp [segF, segN_true, lastD]
  | x :: y :: r, st => by
    unfold segF
    rw [segF_keep (y :: r), segN_false]
    simp [lastD, List.getLast?_cons]
theorem str_one (x : List UInt8) (l : List UInt8) : ((mkS x).toList == l) = (x == l) := by rw [Lib.toList_data, mkS_list]

theorem keep_len (st : List (List UInt8)) (x : List UInt8) : (keepS st x).length ≤ st.length + 1 := by
  unfold keepS
  split
  · rw [List.length_dropLast]; omega
  · split
    · omega
    · simp
theorem keep_joinlen (st : List (List UInt8)) (x : List UInt8) : (joinS (keepS st x)).length ≤ (joinS st).length + x.length + 1 := by
  rw [← segN_false]; exact segN_len st x false

/-- A slice of strings that the call owns, with its last element taken off. -/
theorem OwnS.pop {w : World} {base e g c : Nat} {n : Nat} {X : List (List UInt8)} (h : OwnS w base e (.slice (some ⟨g, 0, none⟩) n c) X) (hn : X.length = n) (h0 : 0 < n) : OwnS w base e (.slice (some ⟨g, 0, none⟩) (n - 1) c) X.dropLast := by
  have hX : X ≠ [] := fun e => by rw [e] at hn; simp at hn; omega
  have hl : X.dropLast.length = n - 1 := by rw [List.length_dropLast, hn]
  show World.ownsRow _ _ _ _ _ _ _
  rw [hl]
  refine ownsRow_pop (last := [stV (X.getLast hX)]) (by rw [List.length_map, hl, Nat.mul_one]) ?_
  have e1 : (X.dropLast.map stV) ++ [stV (X.getLast hX)] = X.map stV := by
    rw [show [stV (X.getLast hX)] = [X.getLast hX].map stV from rfl, ← List.map_append, List.dropLast_concat_getLast hX]
  rw [e1, show n - 1 + 1 = n by omega]
  have := h
  unfold OwnS at this
  rwa [hn] at this

set_option maxHeartbeats 4000000 in
set_option maxRecDepth 100000 in
theorem straighten_any (p : ByteArray) (w : World) (hp : p.data.toList.head? = some 47) (hs : p.size ≤ 1000000) :
    Calls Tryz.prog 22 #[.string p] w fun e w' => e = .returned (.string (mkS (dotsL p.data.toList))) ∧ Below w.heap.size w w' := by
  have h1 : 1 ≤ p.size := by
    rw [Lib.size_eq]
    cases h : p.data.toList with
    | nil => rw [h] at hp; cases hp
    | cons => simp
  have htl : (p.extract 1 p.size).data.toList = p.data.toList.tail := by
    rw [Lib.extract_data, List.drop_one, List.take_of_length_le (by rw [List.length_tail, ← Lib.size_eq]; omega)]
  have hts : (p.extract 1 p.size).size ≤ 1000000 := by rw [Lib.size_eq, htl, List.length_tail, ← Lib.size_eq]; omega
  obtain ⟨L, hL⟩ : ∃ L, L = spS p.data.toList.tail := ⟨_, rfl⟩
  have hjl : (joinS L).length ≤ 1000001 := by
    rw [hL, join_sp, List.length_cons, List.length_tail, ← Lib.size_eq]; omega
  have hll : L.length ≤ (joinS L).length := by
    clear hL hjl
    induction L with
    | nil => simp
    | cons x L ih => rw [joinS_cons]; simp; omega
  have hR : dotsL p.data.toList = 47 :: Lib.join (segF [] L) [47] := by
    unfold dotsL
    rw [← hL]
    cases hq : segF [] L with
    | nil => rfl
    | cons x M => rw [if_neg (fun e => absurd (joinS_nil e) (by simp)), join_slash, joinS_cons]; rfl
  rw [segF_keep] at hR
  have cs := fun W => split_slash (p.extract 1 p.size) W (by omega)
  rw [htl, ← hL] at cs
  have C := Lib.hid cs
  have HR := Lib.hid hR
  have HJ := Lib.hid hjl
  have h1' : (1 : Int) ≤ (p.size : Int) := by omega
  have hll2 : L.length ≤ 1000001 := by omega
  clear cs hR hjl htl hts hL hp hll
  go_enter Tryz.func22, Tryz.ntmps22
  go_wp2_with (go_at_call 43; refine (C.out _).mono ?_; rintro e w1 ⟨rfl, hS, hb⟩)
  have HS := Lib.hid hS
  have HB := Lib.hid hb
  clear hS hb
  go_loopw [3, 4, 11] (fun v d i wr => ∃ (k : Nat) (X : List (List UInt8)), k ≤ L.length ∧ X.length ≤ k ∧ i = .int .i64 (k : Int) ∧ d = .bool (lastD (L.take k)) ∧ Hid (X = (L.take k).foldl keepS []) ∧ OwnS wr w1.heap.size 9 v X ∧ Below w1.heap.size w1 wr) (fun _ _ i _ => L.length - (intOf i).toNat)
  case atStart => exact ⟨0, [], Nat.zero_le _, Nat.le_refl _, rfl, rfl, rfl, OwnS.nil _ _ _, Below.refl _ _⟩
  case round =>
    obtain ⟨k, X, hk, hX, rfl, rfl, hf, ho, hbel⟩ := hrel
    have HB2 := Lib.hid hbel
    have HO := Lib.hid ho
    by_cases hlt : k < L.length
    · have hkx : L[k]? = some L[k] := List.getElem?_eq_getElem hlt
      have hcell : wr.cell? ⟨w.heap.size, k, none⟩ = some (.string (mkS L[k])) := by
        have := (HS.out.below hbel).cells k L[k] hkx
        rwa [addr_add] at this
      have ht : L.take (k + 1) = L.take k ++ [L[k]] := List.take_succ_eq_append_getElem hlt
      have HD : Hid (lastD (L.take (k + 1)) = dotB L[k]) := by
        show _ = _
        rw [ht]; unfold lastD; rw [List.getLast?_concat]
      have HF : Hid ((L.take (k + 1)).foldl keepS [] = keepS X L[k]) := by
        show _ = _
        rw [ht, List.foldl_append, ← hf.out]; rfl
      have hlen := keep_len X L[k]
      have q1 := str_one L[k] [46]
      have q2 := str_one L[k] [46, 46]
      obtain ⟨x, hx⟩ : ∃ x, L[k] = x := ⟨_, rfl⟩
      rw [hx] at hcell HD HF hlen q1 q2
      obtain ⟨Y, hY⟩ : ∃ Y, Y = mkS x := ⟨_, rfl⟩
      rw [← hY] at hcell q1 q2
      have hYx : Hid (Y.data.toList = x) := by show _ = _; rw [hY, mkS_list]
      clear hkx ht hf ho hbel hx hY
      by_cases c2 : x = [46, 46]
      · have e1 : (x == [46]) = false := by rw [c2]; rfl
        have e2 : (x == [46, 46]) = true := by rw [c2]; rfl
        rw [e1] at q1
        rw [e2] at q2
        have HD2 : Hid (lastD (L.take (k + 1)) = true) := by show _ = _; rw [HD.out, c2]; rfl
        have HF2 : Hid ((L.take (k + 1)).foldl keepS [] = X.dropLast) := by show _ = _; rw [HF.out, c2]; rfl
        clear c2 e1 e2 HD HF hYx
        by_cases c3 : X.length = 0
        · obtain rfl : X = [] := List.eq_nil_of_length_eq_zero c3
          obtain ⟨A, c, rfl, _, _⟩ := HO.out.sls
          go_wp2_with fail
          go_roundw
          case rel => exact ⟨k + 1, [], by omega, by simp, by go_num, by rw [HD2.out], by show _ = _; rw [HF2.out]; rfl, HO.out, HB2.out⟩
          case measure => simp [intOf]; omega
        · obtain ⟨A, c, rfl, hA, hH⟩ := HO.out.sls
          have c4 : (0 : Int) < (X.length : Int) := by omega
          have hcap := hA.cap
          have hcm := hA.cm
          unfold maxLen at hcm
          obtain ⟨g, hg, rfl⟩ : ∃ g, g < wr.heap.size ∧ A = some ⟨g, 0, none⟩ := by
            rcases hH with rfl | h
            · have := hA.none_eq; omega
            · exact h
          have HP := Lib.hid (HO.out.pop rfl (by omega))
          have hw1 : IntKind.i64.wrap ((X.length : Int) - 1) = ((X.length - 1 : Nat) : Int) := by rw [IntWalk.i64_in _ (by omega)]; omega
          have hlx := HF2
          generalize hn : X.length = n at *
          obtain ⟨m, hm⟩ : ∃ m, m = n - 1 := ⟨_, rfl⟩
          rw [← hm] at hw1 HP
          have hmn : m < n := by omega
          clear hA hH
          go_wp2_with fail
          go_roundw
          case rel => exact ⟨k + 1, X.dropLast, by omega, by rw [List.length_dropLast]; omega, by go_num, by rw [HD2.out], HF2.out.symm, by rw [← hm]; exact HP.out, HB2.out⟩
          case measure => simp [intOf]; omega
      · by_cases c1 : x = [46]
        · have e1 : (x == [46]) = true := by rw [c1]; rfl
          have e2 : (x == [46, 46]) = false := by rw [c1]; rfl
          rw [e1] at q1
          rw [e2] at q2
          have HD2 : Hid (lastD (L.take (k + 1)) = true) := by show _ = _; rw [HD.out, c1]; rfl
          have HF2 : Hid ((L.take (k + 1)).foldl keepS [] = X) := by show _ = _; rw [HF.out, c1]; rfl
          clear c2 c1 e1 e2 HD HF hYx
          go_wp2_with fail
          go_roundw
          case rel => exact ⟨k + 1, X, by omega, by omega, by go_num, by rw [HD2.out], HF2.out.symm, HO.out, HB2.out⟩
          case measure => simp [intOf]; omega
        · have e1 : (x == [46]) = false := beq_eq_false_iff_ne.2 c1
          have e2 : (x == [46, 46]) = false := beq_eq_false_iff_ne.2 c2
          rw [e1] at q1
          rw [e2] at q2
          have HD2 : Hid (lastD (L.take (k + 1)) = false) := by show _ = _; rw [HD.out]; unfold dotB; rw [e1, e2]; rfl
          have HF2 : Hid ((L.take (k + 1)).foldl keepS [] = X ++ [Y.data.toList]) := by show _ = _; rw [HF.out, hYx.out]; unfold keepS; rw [if_neg c2, if_neg c1]
          have hsz := HB2.out.size
          clear c2 c1 e1 e2 HD HF hYx
          go_wp2_with (refine wpList_append_sls rfl _ _ _ rfl (w1.heap.size) 9 Tryz.underlying62 (by kernel_rfl) _ rfl X (HO.out.alloc _) _ _ _ rfl [Y.data.toList] (SlS.text _ _ Y) (by simp; omega) (by simp; omega) wr ((Below.refl _ _).alloc HB2.out.size _) ?_; intro v' w4 ho4 hb4 hz4)
          go_roundw
          case rel => exact ⟨k + 1, X ++ [Y.data.toList], by omega, by simp; omega, by go_num, by rw [HD2.out], HF2.out.symm, ho4.out, HB2.out.trans (hb4.mono (Nat.le_refl _))⟩
          case measure => simp [intOf]; omega
    · have hkL : L.take k = L := List.take_of_length_le (by omega)
      rw [hkL] at hf
      rw [hkL]
      have hfin : endS X (lastD L) = segF [] L := by rw [segF_keep, ← hf.out]
      have hjo : (Lib.join (endS X (lastD L)) [47]).length ≤ 1000001 := by
        have h1 := segF_len L []
        rw [← hfin] at h1
        cases hq : endS X (lastD L) with
        | nil => exact Nat.zero_le _
        | cons y M =>
          rw [hq, joinS_cons] at h1
          rw [join_slash]
          have := HJ.out
          simp only [List.cons_append, List.length_cons, List.length_append, show joinS [] = [] from rfl, List.length_nil] at h1 ⊢
          omega
      have hR2 : Hid (mkS (dotsL p.data.toList) = (⟨#[47]⟩ : ByteArray) ++ mkS (Lib.join (endS X (lastD L)) [47])) := by
        show _ = _
        rw [HR.out, ← hf.out, show (⟨#[47]⟩ : ByteArray) = mkS [47] from rfl, mkS_append]; rfl
      have hz : (mkS (Lib.join (endS X (lastD L)) [47])).size ≤ 1000001 := by rw [mkS_size]; exact hjo
      have hzz : ((mkS (Lib.join (endS X (lastD L)) [47])).size : Int) ≤ 1000001 := by omega
      have HB3 := Lib.hid (below_then HB.out HB2.out)
      have hsz := HB2.out.size
      clear hfin hf ho hkL
      cases hd : lastD L with
      | true =>
        rw [hd] at hjo hR2 hz hzz
        have hjoin : ∀ A n c W, SlS W A n c (endS X true) → Head W A → n ≤ 1000000000 → Calls Tryz.prog 44 #[.slice A n c, .string ⟨#[47]⟩] W fun e w' => e = .returned (.string (mkS (Lib.join (endS X true) [47]))) ∧ Below W.heap.size W w' :=
          fun A n c W h hH hn => join_slash_any A n c _ W h hH hn (by omega)
        have HJN := Lib.hid hjoin
        generalize mkS (Lib.join (endS X true) [47]) = J at *
        clear hjo hjoin hd
        go_wp2_with (refine wpList_append_sls rfl _ _ _ rfl (w1.heap.size) 9 Tryz.underlying62 (by kernel_rfl) _ rfl X (HO.out.alloc _) _ _ _ rfl [[]] (SlS.text _ _ ⟨#[]⟩) (by simp; omega) (by simp; omega) wr ((Below.refl _ _).alloc HB2.out.size _) ?_; intro v' w4 ho4 hb4 hz4)
        obtain ⟨A, c, rfl, hA, hH⟩ := ho4.out.sls
        go_wp2_with fail
        refine (HJN.out _ _ _ _ hA hH (by simp; omega)).mono ?_
        rintro e w5 ⟨rfl, hb5⟩
        go_wp2_with fail
        go_ret
        exact ⟨by rw [hR2.out]; rfl, below_then (HB3.out.trans (hb4.mono HB.out.size)) hb5⟩
      | false =>
        rw [hd] at hjo hR2 hz hzz
        obtain ⟨A, c, rfl, hA, hH⟩ := HO.out.sls
        have hjoin := join_slash_any A X.length c X wr hA hH (by omega) (by simp only [endS] at hjo; exact Nat.le_trans hjo (by omega))
        have hR3 : Hid (mkS (dotsL p.data.toList) = (⟨#[47]⟩ : ByteArray) ++ mkS (Lib.join X [47])) := hR2.out
        change (mkS (Lib.join X [47])).size ≤ 1000001 at hz
        change ((mkS (Lib.join X [47])).size : Int) ≤ 1000001 at hzz
        have HJN := Lib.hid hjoin
        generalize mkS (Lib.join X [47]) = J at *
        clear hjo hjoin hd hR2 hA hH
        go_wp2_with fail
        refine (HJN.out).mono ?_
        rintro e w5 ⟨rfl, hb5⟩
        go_wp2_with fail
        go_ret
        exact ⟨by rw [hR3.out]; rfl, below_then HB3.out hb5⟩

end Go.Proofs.YtcmppmbieebkpaaGreatDoor
