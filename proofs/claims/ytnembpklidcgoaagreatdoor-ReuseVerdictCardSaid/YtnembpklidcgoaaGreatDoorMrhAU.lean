/-
  Texts that the laws of this seat lean on, one behind the other.
-/
import Derived.Test.YtnembpklidcgoaaGreatDoorMrhAT
import Derived.Test.YtnembpklidcgoaaGreatDoorMrhAF
import Derived.Test.YtnembpklidcgoaaGreatDoorMrhE
import Derived.Test.YtnembpklidcgoaaGreatDoorMrhO
import Derived.Test.YtnembpklidcgoaaGreatDoorMrhK
import Derived.Test.YtnembpklidcgoaaGreatDoorMrhI
import Derived.Maps.OwnSet
import Derived.StringKeys
import Derived.Sort.KeysCollected
import Derived.Carry
set_option linter.unusedSimpArgs false
set_option linter.unusedVariables false
/-
  Names held in a map: what a map's keys are, a name put into it, the keys told sorted; contract of package vary's collect.
-/
section
namespace Go.Proofs.YtnembpklidcgoaaGreatDoor
open Go.RowKit
set_option linter.unusedSimpArgs false

/-- The names that block b, a map of at most n entries, holds are those of X. -/
def Mp (w : World) (b n : Nat) (X : List (List UInt8)) : Prop := ∃ D : DataW Unit, w.ownsMap Tryz.prog 9 unitElem b n D ∧ ∀ x, Maps.has D (.string x) = true ↔ x ∈ X

section
variable {w w' : World} {b n : Nat} {X : List (List UInt8)}
theorem Mp.made (w : World) : Mp (w.alloc (.map #[] 0)) w.heap.size 0 [] := ⟨_, World.ownsMap_made _ _ _ _, fun x => by simp [Maps.has]⟩
theorem Mp.lt (h : Mp w b n X) : b < w.heap.size := by
  obtain ⟨D, hown, _⟩ := h
  exact hown.lt
theorem Mp.below (h : Mp w b n X) (hb : Below w.heap.size w w') : Mp w' b n X := by
  have hlt := h.lt
  obtain ⟨D, ⟨es, clock, h1, h2⟩, hD⟩ := h
  exact ⟨D, ⟨es, clock, (hb.block b hlt).trans h1, h2⟩, hD⟩
theorem Mp.alloc (h : Mp w b n X) (o : Obj) : Mp (w.alloc o) b n X := by
  obtain ⟨D, h1, hD⟩ := h
  exact ⟨D, h1.alloc o, hD⟩
theorem Mp.mono (h : Mp w b n X) {m : Nat} (hm : n ≤ m) : Mp w b m X := by
  obtain ⟨D, h1, hD⟩ := h
  exact ⟨D, h1.mono hm, hD⟩
theorem Mp.not_cell (h : Mp w b n X) {a : Addr} {u : Value} (hu : w.cell? a = some u) : a.block ≠ b := by
  obtain ⟨D, ⟨es, clock, h1, _⟩, _⟩ := h
  rintro rfl
  simp [World.cell?, h1] at hu
theorem SlS.butM {A : Option Addr} {m c : Nat} {L : List (List UInt8)} (hs : SlS w A m c L) (h : Mp w b n X) (hb : ButB b w w') : SlS w' A m c L :=
  hs.keep fun a _ hu => (World.cell?_of_block (hb.block _ (World.block_lt_of_cell? w a hu) (h.not_cell hu))).trans hu
end

/-- 'm[s] = struct{}{}', at the operation. -/
theorem wpList_mark {ops : Array Oper} {rest : List Oper} {o : Oper} {a : Act} {w : World} {Q : Exit → Act → World → Prop} (hgd : o.guard = none) (m x v : Operand) (hop : o.op = Op.mapUpdate 117 m x v)
    (b n : Nat) (X : List (List UInt8)) (hm : a.eval m = .map (some b)) (hM : Mp w b n X) (hn : n ≤ 1000000000) (s : List UInt8) (hx : a.eval x = .string (mkS s)) (hs : s.length ≤ maxLen) (hv : a.eval v = .agg #[]) (w0 : World) (hb : ButB b w0 w)
    (h : ∀ w', Hid (Mp w' b (n + 1) (putL s X)) → ButB b w w' → Hid (ButB b w0 w') → wpList Tryz.prog ops Q rest (a.put o.dst undef) w') : wpList Tryz.prog ops Q (o :: rest) a w := by
  obtain ⟨D, hown, hD⟩ := hM
  have hk : Maps.Keyed Tryz.prog 9 := Maps.string_keyed Tryz.underlying9
  have hkey : keyOf Tryz.prog 9 (.string (mkS s)) = some (.string s) := by
    rw [WideMaps.keyOf_string_mk Tryz.underlying9 (by rw [mkS_size]; exact hs), mkS_list]
  refine wpList_mapUpdate_own w hgd m x v 117 hop 9 123 hk Tryz.underlying117 unitElem b n D hm hown (by unfold maxLen; omega) (.string (mkS s)) (.agg #[]) (.string s) hx hv hkey (.agg []) [] unitElem_mk ?_
  intro w' hown' hg
  have hbb : ButB b w w' := ⟨hg.os, hg.tape, hg.output, hg.size, fun k hk hne => hg.block k hk (by simpa using hne)⟩
  refine h w' ⟨_, hown', fun y => ?_⟩ hbb (hb.trans hbb)
  rw [put_iff]
  by_cases hy : y = s
  · subst hy
    rw [Maps.has_put_same hown.isMap (show WideAt.IsKeyLit (.string y) from trivial)]; simp
  · rw [Maps.has_put_other (by simpa using hy), hD y]; simp [hy]

theorem les_lt : ∀ x y : List UInt8, lesL x y = true → x < y
  | [], [], h => by cases h
  | [], _ :: _, _ => by simp
  | _ :: _, [], h => by cases h
  | a :: x, b :: y, h => by
    have h : (if a ≠ b then decide (a.toNat < b.toNat) else lesL x y) = true := h
    rw [List.cons_lt_cons_iff]
    by_cases e : a = b
    · subst e
      rw [if_neg (by simp)] at h
      exact .inr ⟨rfl, les_lt x y h⟩
    · rw [if_pos e, decide_eq_true_eq] at h
      exact .inl (UInt8.lt_iff_toNat_lt.2 h)
theorem srt_merge {X : List (List UInt8)} (h : Srt X) : X.mergeSort leB = X := by
  refine List.mergeSort_of_pairwise (h.imp fun {a b} hab => ?_)
  simp only [leB, decide_eq_true_eq]
  exact List.le_of_lt (les_lt a b hab)
theorem srt_nodup {X : List (List UInt8)} (h : Srt X) : X.Nodup := h.imp fun hab => (les_asymm hab).2

/-- maps.Keys. -/
theorem mkeys_any (mb : Option Nat) (w : World) : Calls Tryz.prog 130 #[.map mb] w fun e w' => e = .returned (.func (.func 163) #[] #[.pointer (some ⟨w.heap.size, 0, none⟩)]) ∧ w' = w.alloc (.cells #[.map mb] 117) :=
  callsIn_wide.1 (Tryz.maps_Keys_one mb w)
/-- slices.Sorted of a map's keys. -/
theorem sorted_any (b n : Nat) (X : List (List UInt8)) (w : World) (h : Mp w b n X) (hX : Srt X) (hn : n ≤ 1000000000) :
    Calls Tryz.prog 129 #[.func (.func 163) #[] #[.pointer (some ⟨w.heap.size, 0, none⟩)]] (w.alloc (.cells #[.map (some b)] 117)) fun e w' =>
      ∃ A c, e = .returned (.slice A X.length c) ∧ SlS w' A X.length c X ∧ Head w' A ∧ Below w.heap.size w w' := by
  obtain ⟨D, hown, hD⟩ := h
  have hsz := hown.size_le
  refine (callsIn_wide.1 (Tryz.slices_Sorted_one b n D unitElem w hown (by unfold maxLen; omega) (by omega))).mono ?_
  rintro e w' ⟨v, ss, rfl, hp, hrow, _, hb⟩
  obtain ⟨es, rfl, hpw, _⟩ := hown.entries (Maps.string_keyed Tryz.underlying9)
  obtain ⟨es', he, hko⟩ := hown.keysOf
  obtain rfl : es = es' := by simpa using he
  have hx : X.Perm (strKeys (.map es : DataW Unit)) := perm_strKeys hpw (fun p hp => by
    obtain ⟨u, hu⟩ := hko p hp
    obtain ⟨x, _, hx, _⟩ := Maps.keyOf_str Tryz.underlying9 hu
    exact ⟨x, hx⟩) (srt_nodup hX) (fun x => (hD x).symm)
  have hm : ss.mergeSort leB = X := by rw [mergeSort_of_perm (hp.trans hx.symm), srt_merge hX]
  have hl : ss.length = X.length := (hp.trans hx.symm).length_eq
  have hrow2 : w'.ownsRow (w.alloc (.cells #[.map (some b)] 117)).heap.size 9 1 v X.length (X.map stV) := by
    have : (ss.mergeSort (fun x y => decide (x ≤ y))).map encStr = X.map stV := by
      show (ss.mergeSort leB).map encStr = _
      rw [hm]; rfl
    rw [this, hl] at hrow
    exact hrow
  obtain ⟨A, c, rfl, hS, hH⟩ := SlS.of_own hrow2
  exact ⟨A, c, rfl, hS, hH, ((Below.refl _ w).alloc (Nat.le_refl _) _).trans (hb.mono (by simp))⟩

/-- Whether one value's elements may all be names. -/
def colB (X : List (List UInt8)) (v : List UInt8) : Option (List (List UInt8)) := match splitL v with
  | none => none
  | some E => nmE X E
/-- What collect answers. -/
def IsCol (w : World) (b n : Nat) (R : Option (List (List UInt8))) (e : Ending) (w' : World) : Prop :=
  e = .returned (.bool R.isSome) ∧ (∀ o, R = some o → Mp w' b n o) ∧ ButB b w w'

set_option maxHeartbeats 8000000 in
set_option maxRecDepth 100000 in
theorem collect_any (b n : Nat) (X : List (List UInt8)) (v : ByteArray) (w : World) (h : Mp w b n X) (hn : n ≤ 100000000) (hv : v.size ≤ 10000) :
    Calls Tryz.prog 128 #[.map (some b), .string v] w (IsCol w b (n + 10001) (colB X v.data.toList)) := by
  have CS := Lib.hid (fun W => split_any v W (by omega))
  obtain ⟨R, hR⟩ : ∃ R, R = colB X v.data.toList := ⟨_, rfl⟩
  rw [← hR]
  have bad : ∀ w', R = none → ButB b w w' → IsCol w b (n + 10001) R (.returned (.bool false)) w' := fun w' e hb => by
    subst e
    exact ⟨rfl, (fun o h => by cases h), hb⟩
  have BAD := Lib.hid bad
  have HM := Lib.hid h
  clear bad h
  unfold colB at hR
  cases hsp : splitL v.data.toList with
  | none =>
    rw [hsp] at hR
    rw [(spl_bad _ hsp).1, (spl_bad _ hsp).2] at CS
    have HR := Lib.hid hR
    clear hR hsp
    unfold Strs2 at CS
    go_enter Tryz.func128, Tryz.ntmps128
    go_wp2_with fail
    refine (CS.out _).mono ?_
    rintro e w2 ⟨A2, c2, rfl, _, _, hb⟩
    go_wp2_with fail
    go_ret
    exact BAD.out _ HR.out (ButB.of_below hb)
  | some E =>
    rw [hsp] at hR
    have hgd := split_good hsp
    rw [(spl_out _ E hsp).1, (spl_out _ E hsp).2] at CS
    have hvl : v.data.toList.length ≤ 10000 := by rw [← Lib.size_eq]; exact hv
    have hEl : E.length ≤ 10001 := by have := hgd.2; omega
    have HES : Hid (∀ x ∈ E, x.length ≤ 10000) := fun x hx => by have := (hgd.1 x hx).2; omega
    have HR : Hid (R = nmE X E) := hR
    clear hR hsp hgd hvl
    unfold Strs2 at CS
    go_enter Tryz.func128, Tryz.ntmps128
    go_wp2_with fail
    refine (CS.out _).mono ?_
    rintro e w2 ⟨A2, c2, rfl, hE, _, hb⟩
    have HE := Lib.hid hE
    have HM := Lib.hid (HM.out.below hb)
    have HB : Hid (ButB b w w2) := ButB.of_below hb
    clear hb hE
    go_wp2_with fail
    go_loopw [18] (fun i wr => ∃ (j : Nat) (Y : List (List UInt8)), j ≤ E.length ∧ i = .int .i64 j ∧ Hid (R = nmE Y (E.drop j)) ∧ Hid (Mp wr b (n + j) Y) ∧ Hid (SlS wr A2 E.length c2 E) ∧ Hid (ButB b w wr)) (fun i _ => E.length - (intOf i).toNat)
    case atStart => exact ⟨0, X, Nat.zero_le _, rfl, HR.out, HM.out, HE.out, HB.out⟩
    case round =>
      clear HR HM HE HB
      obtain ⟨j, Y, hj, rfl, hf, HM, HE, HB⟩ := hrel
      by_cases hjl : j < E.length
      · obtain ⟨bd, rfl, hd⟩ := HE.out.at_ (by omega)
        have hcell := hd j E[j] (List.getElem?_eq_getElem hjl)
        have hj0 : (0 : Int) ≤ (j : Int) := by omega
        have hj1 : (j : Int) < (E.length : Int) := by omega
        have hst := nme_step Y E j hjl
        have hes := HES.out _ (List.getElem_mem hjl)
        generalize hv : E[j] = x at *
        have hms : (mkS x).size ≤ 10000 := by rw [mkS_size]; exact hes
        have hle : (mkS x).size ≤ maxLen := Nat.le_trans hms (by decide)
        have CT := Lib.hid (fun W => isToken_any (mkS x) W hle)
        have hemp : (mkS x).toList.isEmpty = x.isEmpty := by rw [Lib.toList_data, mkS_list]
        rw [mkS_list, hemp] at CT
        have CL := Lib.hid (fun W => lower_any (mkS x) W hle)
        rw [mkS_list] at CL
        have h42 : ((mkS x).toList == [42]) = (x == [42]) := by rw [Lib.toList_data, mkS_list]
        have HLL : Hid ((lowL x).length ≤ maxLen) := by show _ ≤ _; rw [low_len]; unfold maxLen; omega
        have hnj : n + j ≤ 1000000000 := by omega
        clear hd hv hms hle hemp hes
        cases hq : (x == [42]) with
        | true =>
          rw [hq] at h42
          have hON : R = none := by rw [hf.out, hst, if_pos (.inl (by simpa using hq))]
          have HON := Lib.hid hON
          clear hf hst hON hq CT CL
          go_wp2_with fail
          go_ret
          exact BAD.out _ HON.out HB.out
        | false =>
          rw [hq] at h42
          have hq2 : ¬ x = [42] := by simpa using hq
          cases ht : (!x.isEmpty && allB tokB x) with
          | false =>
            have hON : R = none := by
              have : (x.isEmpty || !allB tokB x) = true := by
                revert ht
                cases x.isEmpty <;> cases allB tokB x <;> simp
              rw [hf.out, hst, if_pos (.inr this)]
            have HON := Lib.hid hON
            rw [ht] at CT
            clear hf hst hON hq ht CL hq2
            go_wp2_with fail
            refine (CT.out _).mono ?_
            rintro e w3 ⟨rfl, hb⟩
            have HB := Lib.hid (HB.out.trans (ButB.of_below hb))
            clear hb
            go_wp2_with fail
            go_ret
            exact BAD.out _ HON.out HB.out
          | true =>
            have HN : Hid (R = nmE (putL (lowL x) Y) (E.drop (j + 1))) := by
              have : ¬ (x.isEmpty || !allB tokB x) = true := by
                revert ht
                cases x.isEmpty <;> cases allB tokB x <;> simp
              show _ = _
              rw [hf.out, hst, if_neg (by rintro (e | e); exact hq2 e; exact this e)]
            rw [ht] at CT
            clear hf hst hq ht hq2
            generalize mkS x = xx at *
            generalize lowL x = lx at *
            go_wp2_with fail
            refine (CT.out _).mono ?_
            rintro e w3 ⟨rfl, hb⟩
            have HM := Lib.hid (HM.out.below hb)
            have HE := Lib.hid (HE.out.below hb)
            have HB := Lib.hid (HB.out.trans (ButB.of_below hb))
            clear hb hcell
            go_wp2_with fail
            refine (CL.out _).mono ?_
            rintro e w4 ⟨rfl, hb⟩
            have HM := Lib.hid (HM.out.below hb)
            have HE := Lib.hid (HE.out.below hb)
            have HB := Lib.hid (HB.out.trans (ButB.of_below hb))
            clear hb
            go_wp2_with (at_mapUpdate; refine wpList_mark rfl _ _ _ rfl b (n + j) Y rfl HM.out hnj lx rfl HLL.out rfl w HB.out ?_; intro w5 hm5 hb5 hbb5)
            have HE := Lib.hid (HE.out.butM HM.out hb5)
            go_roundw
            case rel => exact ⟨j + 1, _, by omega, by go_num, HN, hm5, HE.out, hbb5⟩
            case measure => simp [intOf]; omega
      · have hj1 : ¬ (j : Int) < (E.length : Int) := by omega
        have hR : R = some Y := by rw [hf.out, List.drop_eq_nil_of_le (by omega)]; rfl
        have HR := Lib.hid hR
        clear hf hR
        go_wp2_with fail
        go_ret
        refine ⟨by rw [HR.out]; rfl, fun o ho => ?_, HB.out⟩
        rw [HR.out] at ho
        cases ho
        exact HM.out.mono (by omega)

end Go.Proofs.YtnembpklidcgoaaGreatDoor
end

/-
  Contract of package vary's Names; with it all contracts of the package are there (varN_any, varK_any, varM_any, varS_any).
-/
section
namespace Go.Proofs.YtnembpklidcgoaaGreatDoor
open Go.RowKit
set_option linter.unusedSimpArgs false

/-- The field's name as the program writes it. -/
def vyS : ByteArray := ⟨#[118, 97, 114, 121]⟩
theorem vy_all (L : List Fd) : fdAll L vyS = fdAll L vaS := by
  have e : lowL vyS.data.toList = lowL vaS.data.toList := by decide +kernel
  unfold fdAll sameB
  simp only [e]
theorem col_step (X : List (List UInt8)) (V : List (List UInt8)) (k : Nat) (h : k < V.length) : nmV X (V.drop k) = match colB X V[k] with | none => none | some o => nmV o (V.drop (k + 1)) := by
  rw [nmv_step X V k h]
  unfold colB
  cases splitL V[k] <;> rfl
theorem nme_srt {X E o : List (List UInt8)} (hX : Srt X) (h : nmE X E = some o) : Srt o := by
  rcases nme_spec E X with ⟨h1, _⟩ | ⟨p, h1, _, h3, _⟩
  · rw [h1] at h; cases h
  · rw [h1] at h; cases h; exact h3 hX
theorem col_srt {X o : List (List UInt8)} {v : List UInt8} (hX : Srt X) (h : colB X v = some o) : Srt o := by
  unfold colB at h
  cases hs : splitL v with
  | none => rw [hs] at h; cases h
  | some E => rw [hs] at h; exact nme_srt hX h

/-- Fields that are few and not long, names too. -/
def FwW (L : List Fd) : Prop := L.length ≤ 1000 ∧ ∀ x ∈ L, x.2.size ≤ 10000 ∧ x.1.size ≤ 10000
theorem fwW_all {L : List Fd} (h : FwW L) (name : ByteArray) : (fdAll L name).length ≤ 1000 ∧ ∀ x ∈ fdAll L name, x.length ≤ 10000 := by
  refine ⟨?_, fun x hx => ?_⟩
  · have h1 : (fdAll L name).length ≤ L.length := by unfold fdAll; rw [List.length_map]; exact List.length_filter_le _ _
    have := h.1
    omega
  · unfold fdAll at hx
    obtain ⟨y, hy, rfl⟩ := List.mem_map.1 hx
    rw [← Lib.size_eq]
    exact (h.2 y (List.mem_filter.1 hy).1).1

set_option maxHeartbeats 8000000 in
set_option maxRecDepth 100000 in
theorem varNw_any (A : Option Addr) (c : Nat) (L : List Fd) (w : World) (h : SlF w A L.length c L) (hL : FwW L) :
    Calls Tryz.prog 80 #[.slice A L.length c] w (IsNm w (namL L) (namB L)) := by
  have hbd : ∀ x ∈ L, Bd x := fun x hx => by
    have := hL.2 x hx
    exact ⟨by omega, by omega⟩
  have hq := hL.1
  have C1 := Lib.hid (fun W (hW : SlF W A L.length c L) => all_any A L.length c L vyS W hW (by omega) hbd (by decide))
  have hD : namO L = nmV [] (fdAll L vaS) := rfl
  have hNL : namL L = (namO L).getD [] := rfl
  have hO : namB L = (namO L).isSome := rfl
  obtain ⟨hVl, hVs⟩ := fwW_all hL vaS
  rw [vy_all] at C1
  unfold Vals at C1
  generalize fdAll L vaS = V at *
  unfold vyS at C1
  generalize namO L = O at *
  rw [hNL, hO]
  have HD := Lib.hid hD
  have HVS := Lib.hid hVs
  have hmm := @run_makeMap Tryz.prog
  have none_ret : ∀ wr : World, O = none → Below w.heap.size w wr → IsNm w (O.getD []) O.isSome (.returned (.tuple #[.slice none 0 0, .bool false])) wr := fun wr e hb => by
    subst e
    exact ⟨none, 0, rfl, SlS.none_ _, Head.none_ _, hb⟩
  have HNR := Lib.hid none_ret
  have HM0 := Lib.hid (Mp.made w)
  have HB0 : Hid (Below w.heap.size w (w.alloc (.map #[] 0))) := (Below.refl _ _).alloc (Nat.le_refl _) _
  clear none_ret hD hNL hO hVs hbd hq hL
  go_enter Tryz.func80, Tryz.ntmps80
  go_wp2_with fail
  refine (C1.out _ (h.alloc _)).mono ?_
  rintro e w1 ⟨A1, c1, rfl, hS, _, hb⟩
  have HS := Lib.hid hS
  have HM := Lib.hid (HM0.out.below hb)
  have HB := Lib.hid (zero_then hb)
  obtain ⟨b, hb0⟩ : ∃ b, b = w.heap.size := ⟨_, rfl⟩
  rw [← hb0] at HM
  have HGB : Hid (w.heap.size ≤ b) := by show _ ≤ _; omega
  simp only [← hb0]
  clear hS hb hb0 HM0 HB0 C1 h hmm
  go_wp2_with fail
  go_loopw [11] (fun i wr => ∃ (k : Nat) (X : List (List UInt8)), k ≤ V.length ∧ i = .int .i64 k ∧ Hid (Srt X) ∧ Hid (O = nmV X (V.drop k)) ∧ Hid (Mp wr b (k * 10001) X) ∧ Hid (SlS wr A1 V.length c1 V) ∧ Hid (Below w.heap.size w wr)) (fun i _ => V.length - (intOf i).toNat)
  case atStart => exact ⟨0, [], Nat.zero_le _, rfl, List.Pairwise.nil, HD.out, by rw [Nat.zero_mul]; exact HM.out, HS.out, HB.out⟩
  case round =>
    clear HD HM HS HB
    obtain ⟨k, X, hk, rfl, HX, hf, HM, HS, HB⟩ := hrel
    by_cases hlt : k < V.length
    · obtain ⟨ad, rfl, hc⟩ := HS.out.at_ (by omega)
      have hcell := hc k V[k] (List.getElem?_eq_getElem hlt)
      have hi0 : (0 : Int) ≤ (k : Int) := by omega
      have hi1 : (k : Int) < (V.length : Int) := by omega
      have hst := col_step X V k hlt
      have hvs := HVS.out _ (List.getElem_mem hlt)
      generalize hv : V[k] = v at *
      have CC := Lib.hid (fun W (hW : Mp W b (k * 10001) X) => collect_any b (k * 10001) X (mkS v) W hW (by omega) (by rw [mkS_size]; omega))
      rw [mkS_list] at CC
      have HSR := Lib.hid (fun o (ho : colB X v = some o) => col_srt HX.out ho)
      unfold IsCol at CC
      generalize mkS v = vv at *
      clear hc hv hvs
      cases hR : colB X v with
      | none =>
        have HON : Hid (O = none) := by show _ = _; rw [hf.out, hst, hR]
        rw [hR] at CC
        clear hf hst hR HSR
        go_wp2_with fail
        refine (CC.out _ HM.out).mono ?_
        rintro e w2 ⟨rfl, _, hb⟩
        have HB := Lib.hid (HB.out.trans (hb.below (Nat.le_of_lt (Nat.lt_of_le_of_lt HGB.out HM.out.lt)) HGB.out))
        clear hb
        go_wp2_with fail
        go_ret2
        exact HNR.out _ HON.out HB.out
      | some o =>
        have HN : Hid (O = nmV o (V.drop (k + 1))) := by show _ = _; rw [hf.out, hst, hR]
        have HSO := Lib.hid (HSR.out o hR)
        rw [hR] at CC
        clear hf hst hR HSR
        go_wp2_with fail
        refine (CC.out _ HM.out).mono ?_
        rintro e w2 ⟨rfl, hmp, hb⟩
        have HS := Lib.hid (HS.out.butM HM.out hb)
        have HB := Lib.hid (HB.out.trans (hb.below (Nat.le_of_lt (Nat.lt_of_le_of_lt HGB.out HM.out.lt)) HGB.out))
        have HMO := Lib.hid ((hmp o rfl).mono (show k * 10001 + 10001 ≤ (k + 1) * 10001 by omega))
        clear hb hmp hcell HM
        go_wp2_with fail
        go_roundw
        case rel => exact ⟨k + 1, o, by omega, by go_num, HSO.out, HN, HMO.out, HS.out, HB.out⟩
        case measure => simp [intOf]; omega
    · have hON : O = some X := by rw [hf.out, List.drop_eq_nil_of_le (by omega)]; rfl
      have hi1 : ¬ (k : Int) < (V.length : Int) := by omega
      have HON := Lib.hid hON
      have CS := Lib.hid (sorted_any b (k * 10001) X wr HM.out HX.out (by omega))
      clear hf hON
      go_wp2_with (go_at_call 130; refine (mkeys_any (some b) wr).mono ?_; rintro e w2 ⟨rfl, rfl⟩)
      refine CS.out.mono ?_
      rintro e w3 ⟨A3, c3, rfl, hS3, hH3, hb3⟩
      have HB3 := Lib.hid (below_then HB.out hb3)
      clear hb3
      go_wp2_with fail
      go_ret2
      show IsNm _ _ _ _ _
      rw [HON.out]
      exact ⟨A3, c3, rfl, hS3, hH3, HB3.out⟩

theorem varN_any (A : Option Addr) (c : Nat) (L : List Fd) (w : World) (h : SlF w A L.length c L) (hL : FwF L) :
    Calls Tryz.prog 80 #[.slice A L.length c] w (IsNm w (namL L) (namB L)) :=
  varNw_any A c L w h ⟨hL.1, fun x hx => by have := hL.2 x hx; omega⟩

end Go.Proofs.YtnembpklidcgoaaGreatDoor
end
