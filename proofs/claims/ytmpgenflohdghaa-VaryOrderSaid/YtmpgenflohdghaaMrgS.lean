/-
  Texts that the laws of this seat lean on, one behind the other.
-/
import Derived.Test.YtmpgenflohdghaaMrgA
import Derived.Test.YtmpgenflohdghaaMrgQ
import Derived.Test.YtmpgenflohdghaaMrgE
import Derived.Test.YtmpgenflohdghaaMrgJ
import Derived.Test.YtmpgenflohdghaaMrgK
import Derived.Test.YtmpgenflohdghaaMrgG
import Derived.Maps.OwnSet
import Derived.StringKeys
import Derived.Sort.KeysCollected
import Derived.Test.YtmpgenflohdghaaMrgR
import Derived.Carry
/-
  Names held in a map: what a map's keys are, a name put into it, the keys told sorted; contract of package vary's collect.
-/
section
namespace Go.Proofs.Ytmpgenflohdghaa
open Go.RowKit
set_option linter.unusedSimpArgs false

/-- The names that block b, a map of at most n entries, holds are those of X. -/
def Mp (w : World) (b n : Nat) (X : List (List UInt8)) : Prop := ∃ D : DataW Unit, w.ownsMap Try.prog 9 unitElem b n D ∧ ∀ x, Maps.has D (.string x) = true ↔ x ∈ X

section
variable {w w' : World} {b n : Nat} {X : List (List UInt8)}
theorem Mp.made (w : World) : Mp (w.alloc (.map #[] 0)) w.heap.size 0 [] := ⟨_, World.ownsMap_made _ _ _ _, fun x => by simp [Maps.has]⟩
theorem Mp.lt (h : Mp w b n X) : b < w.heap.size := by
  obtain ⟨D, hown, _⟩ := h
  exact hown.lt
theorem Mp.below (h : Mp w b n X) (hb : Below w.heap.size w w') : Mp w' b n X := by
  have hlt := h.lt
  obtain ⟨D, ⟨es, clock, h1, h2⟩, hD⟩ := h
  exact ⟨D, ⟨es, clock, (hb.block b hlt).trans h1, h2⟩, hD⟩
theorem Mp.alloc (h : Mp w b n X) (o : Obj) : Mp (w.alloc o) b n X := by
  obtain ⟨D, h1, hD⟩ := h
  exact ⟨D, h1.alloc o, hD⟩
theorem Mp.mono (h : Mp w b n X) {m : Nat} (hm : n ≤ m) : Mp w b m X := by
  obtain ⟨D, h1, hD⟩ := h
  exact ⟨D, h1.mono hm, hD⟩
theorem Mp.not_cell (h : Mp w b n X) {a : Addr} {u : Value} (hu : w.cell? a = some u) : a.block ≠ b := by
  obtain ⟨D, ⟨es, clock, h1, _⟩, _⟩ := h
  rintro rfl
  simp [World.cell?, h1] at hu
theorem SlS.butM {A : Option Addr} {m c : Nat} {L : List (List UInt8)} (hs : SlS w A m c L) (h : Mp w b n X) (hb : ButB b w w') : SlS w' A m c L :=
  hs.keep fun a _ hu => (World.cell?_of_block (hb.block _ (World.block_lt_of_cell? w a hu) (h.not_cell hu))).trans hu
end

/-- 'm[s] = struct{}{}', at the operation. -/
theorem wpList_mark {ops : Array Oper} {rest : List Oper} {o : Oper} {a : Act} {w : World} {Q : Exit → Act → World → Prop} (hgd : o.guard = none) (m x v : Operand) (hop : o.op = Op.mapUpdate 45 m x v)
    (b n : Nat) (X : List (List UInt8)) (hm : a.eval m = .map (some b)) (hM : Mp w b n X) (hn : n ≤ 1000000000) (s : List UInt8) (hx : a.eval x = .string (mkS s)) (hs : s.length ≤ maxLen) (hv : a.eval v = .agg #[]) (w0 : World) (hb : ButB b w0 w)
    (h : ∀ w', Hid (Mp w' b (n + 1) (putL s X)) → ButB b w w' → Hid (ButB b w0 w') → wpList Try.prog ops Q rest (a.put o.dst undef) w') : wpList Try.prog ops Q (o :: rest) a w := by
  obtain ⟨D, hown, hD⟩ := hM
  have hk : Maps.Keyed Try.prog 9 := Maps.string_keyed Try.underlying9
  have hkey : keyOf Try.prog 9 (.string (mkS s)) = some (.string s) := by
    rw [WideMaps.keyOf_string_mk Try.underlying9 (by rw [mkS_size]; exact hs), mkS_list]
  refine wpList_mapUpdate_own w hgd m x v 45 hop 9 52 hk Try.underlying45 unitElem b n D hm hown (by unfold maxLen; omega) (.string (mkS s)) (.agg #[]) (.string s) hx hv hkey (.agg []) [] unitElem_mk ?_
  intro w' hown' hg
  have hbb : ButB b w w' := ⟨hg.os, hg.tape, hg.output, hg.size, fun k hk hne => hg.block k hk (by simpa using hne)⟩
  refine h w' ⟨_, hown', fun y => ?_⟩ hbb (hb.trans hbb)
  rw [put_iff]
  by_cases hy : y = s
  · subst hy
    rw [Maps.has_put_same hown.isMap (show WideAt.IsKeyLit (.string y) from trivial)]; simp
  · rw [Maps.has_put_other (by simpa using hy), hD y]; simp [hy]

theorem les_lt : ∀ x y : List UInt8, lesL x y = true → x < y
  | [], [], h => by cases h
  | [], _ :: _, _ => by simp
  | _ :: _, [], h => by cases h
  | a :: x, b :: y, h => by
    have h : (if a ≠ b then decide (a.toNat < b.toNat) else lesL x y) = true := h
    rw [List.cons_lt_cons_iff]
    by_cases e : a = b
    · subst e
      rw [if_neg (by simp)] at h
      exact .inr ⟨rfl, les_lt x y h⟩
    · rw [if_pos e, decide_eq_true_eq] at h
      exact .inl (UInt8.lt_iff_toNat_lt.2 h)
theorem srt_merge {X : List (List UInt8)} (h : Srt X) : X.mergeSort leB = X := by
  refine List.mergeSort_of_pairwise (h.imp fun {a b} hab => ?_)
  simp only [leB, decide_eq_true_eq]
  exact List.le_of_lt (les_lt a b hab)
theorem srt_nodup {X : List (List UInt8)} (h : Srt X) : X.Nodup := h.imp fun hab => (les_asymm hab).2

/-- maps.Keys. -/
theorem mkeys_any (mb : Option Nat) (w : World) : Calls Try.prog 26 #[.map mb] w fun e w' => e = .returned (.func (.func 47) #[] #[.pointer (some ⟨w.heap.size, 0, none⟩)]) ∧ w' = w.alloc (.cells #[.map mb] 45) :=
  callsIn_wide.1 (Try.maps_Keys_one mb w)
/-- slices.Sorted of a map's keys. -/
theorem sorted_any (b n : Nat) (X : List (List UInt8)) (w : World) (h : Mp w b n X) (hX : Srt X) (hn : n ≤ 1000000000) :
    Calls Try.prog 25 #[.func (.func 47) #[] #[.pointer (some ⟨w.heap.size, 0, none⟩)]] (w.alloc (.cells #[.map (some b)] 45)) fun e w' =>
      ∃ A c, e = .returned (.slice A X.length c) ∧ SlS w' A X.length c X ∧ Head w' A ∧ Below w.heap.size w w' := by
  obtain ⟨D, hown, hD⟩ := h
  have hsz := hown.size_le
  refine (callsIn_wide.1 (Try.slices_Sorted_one b n D unitElem w hown (by unfold maxLen; omega) (by omega))).mono ?_
  rintro e w' ⟨v, ss, rfl, hp, hrow, _, hb⟩
  obtain ⟨es, rfl, hpw, _⟩ := hown.entries (Maps.string_keyed Try.underlying9)
  obtain ⟨es', he, hko⟩ := hown.keysOf
  obtain rfl : es = es' := by simpa using he
  have hx : X.Perm (strKeys (.map es : DataW Unit)) := perm_strKeys hpw (fun p hp => by
    obtain ⟨u, hu⟩ := hko p hp
    obtain ⟨x, _, hx, _⟩ := Maps.keyOf_str Try.underlying9 hu
    exact ⟨x, hx⟩) (srt_nodup hX) (fun x => (hD x).symm)
  have hm : ss.mergeSort leB = X := by rw [mergeSort_of_perm (hp.trans hx.symm), srt_merge hX]
  have hl : ss.length = X.length := (hp.trans hx.symm).length_eq
  have hrow2 : w'.ownsRow (w.alloc (.cells #[.map (some b)] 45)).heap.size 9 1 v X.length (X.map stV) := by
    have : (ss.mergeSort (fun x y => decide (x ≤ y))).map encStr = X.map stV := by
      show (ss.mergeSort leB).map encStr = _
      rw [hm]; rfl
    rw [this, hl] at hrow
    exact hrow
  obtain ⟨A, c, rfl, hS, hH⟩ := SlS.of_own hrow2
  exact ⟨A, c, rfl, hS, hH, ((Below.refl _ w).alloc (Nat.le_refl _) _).trans (hb.mono (by simp))⟩

/-- Whether one value's elements may all be names. -/
def colB (X : List (List UInt8)) (v : List UInt8) : Option (List (List UInt8)) := match splitL v with
  | none => none
  | some E => nmE X E
/-- What collect answers. -/
def IsCol (w : World) (b n : Nat) (R : Option (List (List UInt8))) (e : Ending) (w' : World) : Prop :=
  e = .returned (.bool R.isSome) ∧ (∀ o, R = some o → Mp w' b n o) ∧ ButB b w w'

set_option maxHeartbeats 8000000 in
set_option maxRecDepth 100000 in
theorem collect_any (b n : Nat) (X : List (List UInt8)) (v : ByteArray) (w : World) (h : Mp w b n X) (hn : n ≤ 100000000) (hv : v.size ≤ 10000) :
    Calls Try.prog 24 #[.map (some b), .string v] w (IsCol w b (n + 10001) (colB X v.data.toList)) := by
  have CS := Lib.hid (fun W => split_any v W (by omega))
  obtain ⟨R, hR⟩ : ∃ R, R = colB X v.data.toList := ⟨_, rfl⟩
  rw [← hR]
  have bad : ∀ w', R = none → ButB b w w' → IsCol w b (n + 10001) R (.returned (.bool false)) w' := fun w' e hb => by
    subst e
    exact ⟨rfl, (fun o h => by cases h), hb⟩
  have BAD := Lib.hid bad
  have HM := Lib.hid h
  clear bad h
  unfold colB at hR
  cases hsp : splitL v.data.toList with
  | none =>
    rw [hsp] at hR
    rw [(spl_bad _ hsp).1, (spl_bad _ hsp).2] at CS
    have HR := Lib.hid hR
    clear hR hsp
    unfold Strs2 at CS
    go_enter Try.func24, Try.ntmps24
    go_wp2_with fail
    refine (CS.out _).mono ?_
    rintro e w2 ⟨A2, c2, rfl, _, _, hb⟩
    go_wp2_with fail
    go_ret
    exact BAD.out _ HR.out (ButB.of_below hb)
  | some E =>
    rw [hsp] at hR
    have hgd := split_good hsp
    rw [(spl_out _ E hsp).1, (spl_out _ E hsp).2] at CS
    have hvl : v.data.toList.length ≤ 10000 := by rw [← Lib.size_eq]; exact hv
    have hEl : E.length ≤ 10001 := by have := hgd.2; omega
    have HES : Hid (∀ x ∈ E, x.length ≤ 10000) := fun x hx => by have := (hgd.1 x hx).2; omega
    have HR : Hid (R = nmE X E) := hR
    clear hR hsp hgd hvl
    unfold Strs2 at CS
    go_enter Try.func24, Try.ntmps24
    go_wp2_with fail
    refine (CS.out _).mono ?_
    rintro e w2 ⟨A2, c2, rfl, hE, _, hb⟩
    have HE := Lib.hid hE
    have HM := Lib.hid (HM.out.below hb)
    have HB : Hid (ButB b w w2) := ButB.of_below hb
    clear hb hE
    go_wp2_with fail
    go_loopw [18] (fun i wr => ∃ (j : Nat) (Y : List (List UInt8)), j ≤ E.length ∧ i = .int .i64 j ∧ Hid (R = nmE Y (E.drop j)) ∧ Hid (Mp wr b (n + j) Y) ∧ Hid (SlS wr A2 E.length c2 E) ∧ Hid (ButB b w wr)) (fun i _ => E.length - (intOf i).toNat)
    case atStart => exact ⟨0, X, Nat.zero_le _, rfl, HR.out, HM.out, HE.out, HB.out⟩
    case round =>
      clear HR HM HE HB
      obtain ⟨j, Y, hj, rfl, hf, HM, HE, HB⟩ := hrel
      by_cases hjl : j < E.length
      · obtain ⟨bd, rfl, hd⟩ := HE.out.at_ (by omega)
        have hcell := hd j E[j] (List.getElem?_eq_getElem hjl)
        have hj0 : (0 : Int) ≤ (j : Int) := by omega
        have hj1 : (j : Int) < (E.length : Int) := by omega
        have hst := nme_step Y E j hjl
        have hes := HES.out _ (List.getElem_mem hjl)
        generalize hv : E[j] = x at *
        have hms : (mkS x).size ≤ 10000 := by rw [mkS_size]; exact hes
        have hle : (mkS x).size ≤ maxLen := Nat.le_trans hms (by decide)
        have CT := Lib.hid (fun W => isToken_any (mkS x) W hle)
        have hemp : (mkS x).toList.isEmpty = x.isEmpty := by rw [Lib.toList_data, mkS_list]
        rw [mkS_list, hemp] at CT
        have CL := Lib.hid (fun W => lower_any (mkS x) W hle)
        rw [mkS_list] at CL
        have h42 : ((mkS x).toList == [42]) = (x == [42]) := by rw [Lib.toList_data, mkS_list]
        have HLL : Hid ((lowL x).length ≤ maxLen) := by show _ ≤ _; rw [low_len]; unfold maxLen; omega
        have hnj : n + j ≤ 1000000000 := by omega
        clear hd hv hms hle hemp hes
        cases hq : (x == [42]) with
        | true =>
          rw [hq] at h42
          have hON : R = none := by rw [hf.out, hst, if_pos (.inl (by simpa using hq))]
          have HON := Lib.hid hON
          clear hf hst hON hq CT CL
          go_wp2_with fail
          go_ret
          exact BAD.out _ HON.out HB.out
        | false =>
          rw [hq] at h42
          have hq2 : ¬ x = [42] := by simpa using hq
          cases ht : (!x.isEmpty && allB tokB x) with
          | false =>
            have hON : R = none := by
              have : (x.isEmpty || !allB tokB x) = true := by
                revert ht
                cases x.isEmpty <;> cases allB tokB x <;> simp
              rw [hf.out, hst, if_pos (.inr this)]
            have HON := Lib.hid hON
            rw [ht] at CT
            clear hf hst hON hq ht CL hq2
            go_wp2_with fail
            refine (CT.out _).mono ?_
            rintro e w3 ⟨rfl, hb⟩
            have HB := Lib.hid (HB.out.trans (ButB.of_below hb))
            clear hb
            go_wp2_with fail
            go_ret
            exact BAD.out _ HON.out HB.out
          | true =>
            have HN : Hid (R = nmE (putL (lowL x) Y) (E.drop (j + 1))) := by
              have : ¬ (x.isEmpty || !allB tokB x) = true := by
                revert ht
                cases x.isEmpty <;> cases allB tokB x <;> simp
              show _ = _
              rw [hf.out, hst, if_neg (by rintro (e | e); exact hq2 e; exact this e)]
            rw [ht] at CT
            clear hf hst hq ht hq2
            generalize mkS x = xx at *
            generalize lowL x = lx at *
            go_wp2_with fail
            refine (CT.out _).mono ?_
            rintro e w3 ⟨rfl, hb⟩
            have HM := Lib.hid (HM.out.below hb)
            have HE := Lib.hid (HE.out.below hb)
            have HB := Lib.hid (HB.out.trans (ButB.of_below hb))
            clear hb hcell
            go_wp2_with fail
            refine (CL.out _).mono ?_
            rintro e w4 ⟨rfl, hb⟩
            have HM := Lib.hid (HM.out.below hb)
            have HE := Lib.hid (HE.out.below hb)
            have HB := Lib.hid (HB.out.trans (ButB.of_below hb))
            clear hb
            go_wp2_with (at_mapUpdate; refine wpList_mark rfl _ _ _ rfl b (n + j) Y rfl HM.out hnj lx rfl HLL.out rfl w HB.out ?_; intro w5 hm5 hb5 hbb5)
            have HE := Lib.hid (HE.out.butM HM.out hb5)
            go_roundw
            case rel => exact ⟨j + 1, _, by omega, by go_num, HN, hm5, HE.out, hbb5⟩
            case measure => simp [intOf]; omega
      · have hj1 : ¬ (j : Int) < (E.length : Int) := by omega
        have hR : R = some Y := by rw [hf.out, List.drop_eq_nil_of_le (by omega)]; rfl
        have HR := Lib.hid hR
        clear hf hR
        go_wp2_with fail
        go_ret
        refine ⟨by rw [HR.out]; rfl, fun o ho => ?_, HB.out⟩
        rw [HR.out] at ho
        cases ho
        exact HM.out.mono (by omega)

end Go.Proofs.Ytmpgenflohdghaa
end

/-
  Contract of package vary's Names; with it all contracts of the package are there (varN_any, varK_any, varM_any, varS_any).
-/
section
namespace Go.Proofs.Ytmpgenflohdghaa
open Go.RowKit
set_option linter.unusedSimpArgs false

/-- The field's name as the program writes it. -/
def vyS : ByteArray := ⟨#[118, 97, 114, 121]⟩
theorem vy_all (L : List Fd) : fdAll L vyS = fdAll L vaS := by
  have e : lowL vyS.data.toList = lowL vaS.data.toList := by decide +kernel
  unfold fdAll sameB
  simp only [e]
theorem col_step (X : List (List UInt8)) (V : List (List UInt8)) (k : Nat) (h : k < V.length) : nmV X (V.drop k) = match colB X V[k] with | none => none | some o => nmV o (V.drop (k + 1)) := by
  rw [nmv_step X V k h]
  unfold colB
  cases splitL V[k] <;> rfl
theorem nme_srt {X E o : List (List UInt8)} (hX : Srt X) (h : nmE X E = some o) : Srt o := by
  rcases nme_spec E X with ⟨h1, _⟩ | ⟨p, h1, _, h3, _⟩
  · rw [h1] at h; cases h
  · rw [h1] at h; cases h; exact h3 hX
theorem col_srt {X o : List (List UInt8)} {v : List UInt8} (hX : Srt X) (h : colB X v = some o) : Srt o := by
  unfold colB at h
  cases hs : splitL v with
  | none => rw [hs] at h; cases h
  | some E => rw [hs] at h; exact nme_srt hX h

set_option maxHeartbeats 8000000 in
set_option maxRecDepth 100000 in
theorem varN_any (A : Option Addr) (c : Nat) (L : List Fd) (w : World) (h : SlF w A L.length c L) (hL : FwF L) :
    Calls Try.prog 9 #[.slice A L.length c] w (IsNm w (namL L) (namB L)) := by
  have hbd : ∀ x ∈ L, Bd x := fun x hx => by
    have := hL.2 x hx
    exact ⟨by omega, by omega⟩
  have hq := hL.1
  have C1 := Lib.hid (fun W (hW : SlF W A L.length c L) => all_any A L.length c L vyS W hW (by omega) hbd (by decide))
  have hD : namO L = nmV [] (fdAll L vaS) := rfl
  have hNL : namL L = (namO L).getD [] := rfl
  have hO : namB L = (namO L).isSome := rfl
  obtain ⟨hVl, hVs⟩ := fw_all hL vaS
  rw [vy_all] at C1
  unfold Vals at C1
  generalize fdAll L vaS = V at *
  unfold vyS at C1
  generalize namO L = O at *
  rw [hNL, hO]
  have HD := Lib.hid hD
  have HVS := Lib.hid hVs
  have hmm := @run_makeMap Try.prog
  have none_ret : ∀ wr : World, O = none → Below w.heap.size w wr → IsNm w (O.getD []) O.isSome (.returned (.tuple #[.slice none 0 0, .bool false])) wr := fun wr e hb => by
    subst e
    exact ⟨none, 0, rfl, SlS.none_ _, Head.none_ _, hb⟩
  have HNR := Lib.hid none_ret
  have HM0 := Lib.hid (Mp.made w)
  have HB0 : Hid (Below w.heap.size w (w.alloc (.map #[] 0))) := (Below.refl _ _).alloc (Nat.le_refl _) _
  clear none_ret hD hNL hO hVs hbd hq hL
  go_enter Try.func9, Try.ntmps9
  go_wp2_with fail
  refine (C1.out _ (h.alloc _)).mono ?_
  rintro e w1 ⟨A1, c1, rfl, hS, _, hb⟩
  have HS := Lib.hid hS
  have HM := Lib.hid (HM0.out.below hb)
  have HB := Lib.hid (zero_then hb)
  obtain ⟨b, hb0⟩ : ∃ b, b = w.heap.size := ⟨_, rfl⟩
  rw [← hb0] at HM
  have HGB : Hid (w.heap.size ≤ b) := by show _ ≤ _; omega
  simp only [← hb0]
  clear hS hb hb0 HM0 HB0 C1 h hmm
  go_wp2_with fail
  go_loopw [11] (fun i wr => ∃ (k : Nat) (X : List (List UInt8)), k ≤ V.length ∧ i = .int .i64 k ∧ Hid (Srt X) ∧ Hid (O = nmV X (V.drop k)) ∧ Hid (Mp wr b (k * 10001) X) ∧ Hid (SlS wr A1 V.length c1 V) ∧ Hid (Below w.heap.size w wr)) (fun i _ => V.length - (intOf i).toNat)
  case atStart => exact ⟨0, [], Nat.zero_le _, rfl, List.Pairwise.nil, HD.out, by rw [Nat.zero_mul]; exact HM.out, HS.out, HB.out⟩
  case round =>
    clear HD HM HS HB
    obtain ⟨k, X, hk, rfl, HX, hf, HM, HS, HB⟩ := hrel
    by_cases hlt : k < V.length
    · obtain ⟨ad, rfl, hc⟩ := HS.out.at_ (by omega)
      have hcell := hc k V[k] (List.getElem?_eq_getElem hlt)
      have hi0 : (0 : Int) ≤ (k : Int) := by omega
      have hi1 : (k : Int) < (V.length : Int) := by omega
      have hst := col_step X V k hlt
      have hvs := HVS.out _ (List.getElem_mem hlt)
      generalize hv : V[k] = v at *
      have CC := Lib.hid (fun W (hW : Mp W b (k * 10001) X) => collect_any b (k * 10001) X (mkS v) W hW (by omega) (by rw [mkS_size]; omega))
      rw [mkS_list] at CC
      have HSR := Lib.hid (fun o (ho : colB X v = some o) => col_srt HX.out ho)
      unfold IsCol at CC
      generalize mkS v = vv at *
      clear hc hv hvs
      cases hR : colB X v with
      | none =>
        have HON : Hid (O = none) := by show _ = _; rw [hf.out, hst, hR]
        rw [hR] at CC
        clear hf hst hR HSR
        go_wp2_with fail
        refine (CC.out _ HM.out).mono ?_
        rintro e w2 ⟨rfl, _, hb⟩
        have HB := Lib.hid (HB.out.trans (hb.below (Nat.le_of_lt (Nat.lt_of_le_of_lt HGB.out HM.out.lt)) HGB.out))
        clear hb
        go_wp2_with fail
        go_ret2
        exact HNR.out _ HON.out HB.out
      | some o =>
        have HN : Hid (O = nmV o (V.drop (k + 1))) := by show _ = _; rw [hf.out, hst, hR]
        have HSO := Lib.hid (HSR.out o hR)
        rw [hR] at CC
        clear hf hst hR HSR
        go_wp2_with fail
        refine (CC.out _ HM.out).mono ?_
        rintro e w2 ⟨rfl, hmp, hb⟩
        have HS := Lib.hid (HS.out.butM HM.out hb)
        have HB := Lib.hid (HB.out.trans (hb.below (Nat.le_of_lt (Nat.lt_of_le_of_lt HGB.out HM.out.lt)) HGB.out))
        have HMO := Lib.hid ((hmp o rfl).mono (show k * 10001 + 10001 ≤ (k + 1) * 10001 by omega))
        clear hb hmp hcell HM
        go_wp2_with fail
        go_roundw
        case rel => exact ⟨k + 1, o, by omega, by go_num, HSO.out, HN, HMO.out, HS.out, HB.out⟩
        case measure => simp [intOf]; omega
    · have hON : O = some X := by rw [hf.out, List.drop_eq_nil_of_le (by omega)]; rfl
      have hi1 : ¬ (k : Int) < (V.length : Int) := by omega
      have HON := Lib.hid hON
      have CS := Lib.hid (sorted_any b (k * 10001) X wr HM.out HX.out (by omega))
      clear hf hON
      go_wp2_with (go_at_call 26; refine (mkeys_any (some b) wr).mono ?_; rintro e w2 ⟨rfl, rfl⟩)
      refine CS.out.mono ?_
      rintro e w3 ⟨A3, c3, rfl, hS3, hH3, hb3⟩
      have HB3 := Lib.hid (below_then HB.out hb3)
      clear hb3
      go_wp2_with fail
      go_ret2
      show IsNm _ _ _ _ _
      rw [HON.out]
      exact ⟨A3, c3, rfl, hS3, hH3, HB3.out⟩

end Go.Proofs.Ytmpgenflohdghaa
end

/-
  The page's example (varies) of layer 15.
-/
section
namespace Go.Proofs.Ytmpgenflohdghaa
open Go.RowKit
set_option linter.unusedSimpArgs false

theorem slf_lit (w : World) (t : TypeId) (L : List Fd) (hm : L.length ≤ maxLen) (hz : ∀ x ∈ L, x.1.size ≤ maxLen ∧ x.2.size ≤ maxLen) : SlF (w.alloc (.cells (fdC L).toArray t)) (some ⟨w.heap.size, 0, none⟩) L.length L.length L :=
  ⟨rfl, Nat.le_refl _, hm, (fun e => by cases e), fun _ => ⟨_, rfl, fun j x hx => by
    have h := fdC_at L j x hx
    rw [addr_add, addr_add, cell_of_row _ _ _ _ _ _ (heap_alloc_new w _), cell_of_row _ _ _ _ _ _ (heap_alloc_new w _)]
    simpa using h⟩, hz⟩
theorem slk_lit (w : World) (t : TypeId) (L : List Pk) (hm : L.length ≤ maxLen) (hz : ∀ x ∈ L, x.n.size ≤ maxLen ∧ x.v.size ≤ maxLen) : SlK (w.alloc (.cells (pkC L).toArray t)) (some ⟨w.heap.size, 0, none⟩) L.length L.length L :=
  ⟨rfl, Nat.le_refl _, hm, (fun e => by cases e), fun _ => ⟨_, rfl, fun j x hx => by
    have h := pkC_at L j x hx
    rw [addr_add, addr_add, addr_add, cell_of_row _ _ _ _ _ _ (heap_alloc_new w _), cell_of_row _ _ _ _ _ _ (heap_alloc_new w _), cell_of_row _ _ _ _ _ _ (heap_alloc_new w _)]
    simpa using h⟩, hz⟩

theorem few70 (b : Nat) (q : Int) (hq : q = (b : Int)) (A : Option Addr) (n c : Nat) (L : List Fd) (w : World) (h : SlF w A n c L) :
    Calls Try.prog 7 #[.slice A n c, .int .i64 70, .int .i64 q] w fun e w' => e = .returned (.bool (fewB L 70 b)) ∧ w = w' := by
  subst hq
  exact rf_few A n c 70 b L w h (by decide)
theorem fwf_of {L : List Fd} (h : fewB L 70 500 = true) : FwF L := by
  have := few_yes h
  exact ⟨by omega, fun x hx => by have := this.2 x hx; exact ⟨by omega, by omega⟩⟩
theorem fwn_of {N : List (List UInt8)} (h : fewN N = true) : FwN N := by
  unfold fewN at h
  rw [Bool.and_eq_true, decide_eq_true_eq, List.all_eq_true] at h
  exact ⟨by omega, fun x hx => by have := h.2 x hx; simp only [decide_eq_true_eq] at this; omega⟩
theorem fwp_of {P : List Pk} (h : fewK P = true) : FwP P := by
  unfold fewK at h
  rw [Bool.and_eq_true, decide_eq_true_eq, List.all_eq_true] at h
  exact ⟨by omega, fun x hx => by have := h.2 x hx; simp only [Bool.and_eq_true, decide_eq_true_eq] at this; omega⟩
theorem nme_len : ∀ (E out o : List (List UInt8)), nmE out E = some o → o.length ≤ out.length + E.length
  | [], out, o, h => by cases h; simp
  | e :: r, out, o, h => by
    unfold nmE at h
    split at h
    · cases h
    · have h1 := nme_len r _ _ h
      have h2 := put_len (lowL e) out
      rw [List.length_cons]; omega
theorem nmv_len : ∀ (V out o : List (List UInt8)), (∀ x ∈ V, x.length ≤ 1000) → nmV out V = some o → o.length ≤ out.length + V.length * 1001
  | [], out, o, _, h => by cases h; simp
  | v :: r, out, o, hv, h => by
    unfold nmV at h
    split at h
    · cases h
    · rename_i E hE
      split at h
      · cases h
      · rename_i o1 ho
        have h1 := nmv_len r _ _ (fun x hx => hv x (List.mem_cons_of_mem _ hx)) h
        have h2 := nme_len E _ _ ho
        have h3 := (split_good hE).2
        have h4 := hv v (List.mem_cons_self ..)
        rw [List.length_cons, Nat.add_mul]; omega
theorem nam_len {L : List Fd} (h : FwF L) : (namL L).length ≤ 1001000 := by
  unfold namL
  cases hO : namO L with
  | none => exact Nat.zero_le _
  | some o =>
    obtain ⟨h1, h2⟩ := fw_all h vaS
    have h3 := nmv_len _ _ _ h2 hO
    have h4 := Nat.mul_le_mul_right 1001 h1
    show o.length ≤ _
    simp only [List.length_nil] at h3
    omega

def l15a : List Fd := [(⟨#[86, 97, 114, 121]⟩, ⟨#[66, 44, 32, 97]⟩), (⟨#[118, 97, 114, 121]⟩, ⟨#[65]⟩)]
def l15b : List Fd := [(⟨#[86, 97, 114, 121]⟩, ⟨#[97, 44, 32, 42]⟩)]
def l15q : List Fd := [(⟨#[65]⟩, ⟨#[120, 32, 32, 32, 121]⟩)]
def p15 : List Pk := [⟨⟨#[97]⟩, true, ⟨#[120, 32, 121]⟩⟩, ⟨⟨#[98]⟩, false, ⟨#[]⟩⟩]
theorem x15a : namL l15a = [[97], [98]] ∧ namB l15a = true := by constructor <;> kernel_rfl
theorem x15b : namB l15b = false := by kernel_rfl
theorem x15c : pksL [[97], [98]] l15q = p15 := by kernel_rfl
theorem x15d : pkM p15 l15q = true ∧ pkM p15 [] = false := by constructor <;> kernel_rfl
theorem fw15a : FwF l15a := by unfold FwF l15a; exact ⟨by decide, by decide⟩
theorem fw15b : FwF l15b := by unfold FwF l15b; exact ⟨by decide, by decide⟩
theorem fw15q : FwF l15q := by unfold FwF l15q; exact ⟨by decide, by decide⟩
theorem fw15p : FwP p15 := by
  refine ⟨by decide, fun x hx => ?_⟩
  unfold p15 at hx
  simp only [List.mem_cons, List.not_mem_nil, or_false] at hx
  rcases hx with rfl | rfl <;> decide
theorem fw15n : FwN [[97], [98]] := ⟨by decide, by decide⟩

theorem e15a (w : World) : Calls Try.prog 9 #[.slice (some ⟨w.heap.size, 0, none⟩) 2 2] (w.alloc (.cells #[.string ⟨#[86, 97, 114, 121]⟩, .string ⟨#[66, 44, 32, 97]⟩, .string ⟨#[118, 97, 114, 121]⟩, .string ⟨#[65]⟩] 38)) fun e w' => ∃ A c, e = .returned (.tuple #[.slice A 2 c, .bool true]) ∧ SlS w' A 2 c [[97], [98]] ∧ Below (w.alloc (.cells #[.string ⟨#[86, 97, 114, 121]⟩, .string ⟨#[66, 44, 32, 97]⟩, .string ⟨#[118, 97, 114, 121]⟩, .string ⟨#[65]⟩] 38)).heap.size (w.alloc (.cells #[.string ⟨#[86, 97, 114, 121]⟩, .string ⟨#[66, 44, 32, 97]⟩, .string ⟨#[118, 97, 114, 121]⟩, .string ⟨#[65]⟩] 38)) w' := by
  have h := varN_any (some ⟨w.heap.size, 0, none⟩) 2 l15a (w.alloc (.cells #[.string ⟨#[86, 97, 114, 121]⟩, .string ⟨#[66, 44, 32, 97]⟩, .string ⟨#[118, 97, 114, 121]⟩, .string ⟨#[65]⟩] 38)) (slf_lit w 38 l15a (by decide) (by unfold l15a; decide)) fw15a
  rw [x15a.1, x15a.2] at h
  refine h.mono ?_
  rintro e w' ⟨A, c, he, hS, _, hb⟩
  exact ⟨A, c, he, hS, hb⟩
theorem e15b (w : World) : Calls Try.prog 9 #[.slice (some ⟨w.heap.size, 0, none⟩) 1 1] (w.alloc (.cells #[.string ⟨#[86, 97, 114, 121]⟩, .string ⟨#[97, 44, 32, 42]⟩] 38)) fun e w' => ∃ A n c, e = .returned (.tuple #[.slice A n c, .bool false]) ∧ Below (w.alloc (.cells #[.string ⟨#[86, 97, 114, 121]⟩, .string ⟨#[97, 44, 32, 42]⟩] 38)).heap.size (w.alloc (.cells #[.string ⟨#[86, 97, 114, 121]⟩, .string ⟨#[97, 44, 32, 42]⟩] 38)) w' := by
  have h := varN_any (some ⟨w.heap.size, 0, none⟩) 1 l15b (w.alloc (.cells #[.string ⟨#[86, 97, 114, 121]⟩, .string ⟨#[97, 44, 32, 42]⟩] 38)) (slf_lit w 38 l15b (by decide) (by unfold l15b; decide)) fw15b
  rw [x15b] at h
  refine h.mono ?_
  rintro e w' ⟨A, c, he, _, _, hb⟩
  exact ⟨A, _, c, he, hb⟩
theorem e15c (w : World) (A B : Option Addr) (c d : Nat) (h : SlS w A 2 c [[97], [98]]) (h' : SlF w B 1 d l15q) : Calls Try.prog 15 #[.slice A 2 c, .slice B 1 d] w fun e w' => ∃ A c, e = .returned (.slice A 2 c) ∧ SlK w' A 2 c p15 ∧ Below w.heap.size w w' := by
  have h2 := varK_any A B c d [[97], [98]] l15q w h h' fw15n fw15q
  rw [x15c] at h2
  exact h2
theorem e15d (w : World) (A : Option Addr) (c : Nat) (h : SlS w A 2 c [[97], [98]]) : Calls Try.prog 11 #[.slice A 2 c, .slice (some ⟨w.heap.size, 0, none⟩) 2 2] (w.alloc (.cells #[.string ⟨#[97]⟩, .string ⟨#[98]⟩] 9)) fun e w' => e = .returned (.bool true) ∧ Below (w.alloc (.cells #[.string ⟨#[97]⟩, .string ⟨#[98]⟩] 9)).heap.size (w.alloc (.cells #[.string ⟨#[97]⟩, .string ⟨#[98]⟩] 9)) w' := by
  have h2 := r_sames A (some ⟨w.heap.size, 0, none⟩) 2 c 2 2 [[97], [98]] [[97], [98]] (w.alloc (.cells #[.string ⟨#[97]⟩, .string ⟨#[98]⟩] 9)) (h.alloc _) (SlS.texts w 9 [⟨#[97]⟩, ⟨#[98]⟩] (by decide)) (by decide)
  have e : (([[97], [98]] : List (List UInt8)) == [[97], [98]]) = true := by decide
  rw [e] at h2
  exact h2
theorem e15e (w : World) (A : Option Addr) (c : Nat) (h : SlK w A 2 c p15) : Calls Try.prog 14 #[.slice A 2 c, .slice (some ⟨w.heap.size, 0, none⟩) 2 2] (w.alloc (.cells #[.string ⟨#[97]⟩, .bool true, .string ⟨#[120, 32, 121]⟩, .string ⟨#[98]⟩, .bool false, .string ⟨#[]⟩] 44)) fun e w' => e = .returned (.bool true) ∧ Below (w.alloc (.cells #[.string ⟨#[97]⟩, .bool true, .string ⟨#[120, 32, 121]⟩, .string ⟨#[98]⟩, .bool false, .string ⟨#[]⟩] 44)).heap.size (w.alloc (.cells #[.string ⟨#[97]⟩, .bool true, .string ⟨#[120, 32, 121]⟩, .string ⟨#[98]⟩, .bool false, .string ⟨#[]⟩] 44)) w' := by
  have h2 := r_pkSame A (some ⟨w.heap.size, 0, none⟩) 2 c 2 2 p15 p15 (w.alloc (.cells #[.string ⟨#[97]⟩, .bool true, .string ⟨#[120, 32, 121]⟩, .string ⟨#[98]⟩, .bool false, .string ⟨#[]⟩] 44)) (h.alloc _) (slk_lit w 44 p15 (by decide) (fun x hx => by have := fw15p.2 x hx; unfold p15 at hx; simp only [List.mem_cons, List.not_mem_nil, or_false] at hx; rcases hx with rfl | rfl <;> decide)) (by decide)
  rw [pksB_refl] at h2
  exact h2
theorem e15f (w : World) (A B : Option Addr) (c d : Nat) (h : SlK w A 2 c p15) (h' : SlF w B 1 d l15q) : Calls Try.prog 17 #[.slice A 2 c, .slice B 1 d] w fun e w' => e = .returned (.bool true) ∧ Below w.heap.size w w' := by
  have h2 := varM_any A B c d p15 l15q w h h' fw15p fw15q
  rw [x15d.1] at h2
  exact h2
theorem e15g (w : World) (A : Option Addr) (c : Nat) (h : SlK w A 2 c p15) : Calls Try.prog 17 #[.slice A 2 c, .slice none 0 0] w fun e w' => e = .returned (.bool false) ∧ Below w.heap.size w w' := by
  have h2 := varM_any A none c 0 p15 [] w h (SlF.none_ w) fw15p ⟨Nat.zero_le _, fun _ h => absurd h (by simp)⟩
  rw [x15d.2] at h2
  exact h2
theorem e15h (w : World) (A : Option Addr) (c : Nat) (h : SlK w A 2 c p15) : Calls Try.prog 19 #[.slice A 2 c, .slice A 2 c] w fun e w' => e = .returned (.bool true) ∧ Below w.heap.size w w' := by
  have h2 := varS_any A A c c p15 p15 w h h (by decide)
  rw [pksB_refl] at h2
  exact h2

set_option maxHeartbeats 16000000 in
set_option maxRecDepth 100000 in
theorem ex15_any (w : World) : Calls Try.prog 8 #[] w fun e w' => e = .returned (.bool true) ∧ Below w.heap.size w w' := by
  have K1 := Lib.hid (fun W => e15a W)
  have K2 := Lib.hid (fun W => e15b W)
  have K3 := Lib.hid (fun W A B c d h h2 => e15c W A B c d h h2)
  have K4 := Lib.hid (fun W A c h => e15d W A c h)
  have K5 := Lib.hid (fun W A c h => e15e W A c h)
  have K6 := Lib.hid (fun W A B c d h h2 => e15f W A B c d h h2)
  have K7 := Lib.hid (fun W A c h => e15g W A c h)
  have K8 := Lib.hid (fun W A c h => e15h W A c h)
  go_enter Try.func8, Try.ntmps8
  go_wp2_with fail
  refine (K1.out _).mono ?_
  rintro e w1 ⟨A1, c1, rfl, hS, hb⟩
  have HS := Lib.hid hS
  have HB := Lib.hid (below_then ((Below.refl _ _).alloc (Nat.le_refl _) (.cells #[.string ⟨#[86, 97, 114, 121]⟩, .string ⟨#[66, 44, 32, 97]⟩, .string ⟨#[118, 97, 114, 121]⟩, .string ⟨#[65]⟩] 38)) hb)
  clear hS hb
  go_wp2_with fail
  refine (K2.out _).mono ?_
  rintro e w2 ⟨A2, n2, c2, rfl, hb⟩
  have hb0 := zero_then hb
  have HS := Lib.hid (HS.out.below hb0)
  have HB := Lib.hid (below_then HB.out hb0)
  clear hb hb0
  have HF : Hid (SlF (w2.alloc (.cells #[.string ⟨#[65]⟩, .string ⟨#[120, 32, 32, 32, 121]⟩] 38)) (some ⟨w2.heap.size, 0, none⟩) 1 1 l15q) := slf_lit w2 38 l15q (by decide) (by unfold l15q; decide)
  have HS := Lib.hid (HS.out.alloc (.cells #[.string ⟨#[65]⟩, .string ⟨#[120, 32, 32, 32, 121]⟩] 38))
  have HB := Lib.hid (HB.out.alloc HB.out.size (.cells #[.string ⟨#[65]⟩, .string ⟨#[120, 32, 32, 32, 121]⟩] 38))
  obtain ⟨W3, hW3⟩ : ∃ W, w2.alloc (.cells #[.string ⟨#[65]⟩, .string ⟨#[120, 32, 32, 32, 121]⟩] 38) = W := ⟨_, rfl⟩
  rw [hW3] at HF HS HB
  go_wp2_with fail
  refine (K3.out _ _ _ _ _ HS.out HF.out).mono ?_
  rintro e w4 ⟨A4, c4, rfl, hK, hb⟩
  clear hW3
  have HK := Lib.hid hK
  have HS := Lib.hid (HS.out.below hb)
  have HF := Lib.hid (HF.out.below hb)
  have HB := Lib.hid (below_then HB.out hb)
  clear hK hb
  go_wp2_with fail
  refine (K4.out _ _ _ HS.out).mono ?_
  rintro e w5 ⟨rfl, hb⟩
  have hb0 := zero_then hb
  have HK := Lib.hid (HK.out.below hb0)
  have HF := Lib.hid (HF.out.below hb0)
  have HB := Lib.hid (below_then HB.out hb0)
  clear hb hb0 HS
  go_wp2_with fail
  refine (K5.out _ _ _ HK.out).mono ?_
  rintro e w6 ⟨rfl, hb⟩
  have hb0 := zero_then hb
  have HK := Lib.hid (HK.out.below hb0)
  have HF := Lib.hid (HF.out.below hb0)
  have HB := Lib.hid (below_then HB.out hb0)
  clear hb hb0
  go_wp2_with fail
  refine (K6.out _ _ _ _ _ HK.out HF.out).mono ?_
  rintro e w7 ⟨rfl, hb⟩
  have HK := Lib.hid (HK.out.below hb)
  have HB := Lib.hid (below_then HB.out hb)
  clear hb HF
  go_wp2_with fail
  refine (K7.out _ _ _ HK.out).mono ?_
  rintro e w8 ⟨rfl, hb⟩
  have HK := Lib.hid (HK.out.below hb)
  have HB := Lib.hid (below_then HB.out hb)
  clear hb
  go_wp2_with fail
  refine (K8.out _ _ _ HK.out).mono ?_
  rintro e w9 ⟨rfl, hb⟩
  have HB := Lib.hid (below_then HB.out hb)
  clear hb
  go_wp2_with fail
  go_ret
  exact ⟨rfl, HB.out⟩

end Go.Proofs.Ytmpgenflohdghaa
end
