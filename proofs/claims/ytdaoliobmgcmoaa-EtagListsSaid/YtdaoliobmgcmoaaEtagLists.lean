/-
  The law EtagLists (depotlaw14) returns true for every list of texts and every tag and leaves what it was given as it was. No condition.
-/
import Derived.Test.YtdaoliobmgcmoaaRows
import Derived.WalkKit
import Derived.ProofKit
import Derived.OpenShut
import Derived.ShutString
import Derived.ChangeOld
import Derived.Below
import Derived.Test.YtdaoliobmgcmoaaEtgX
import Derived.Test.YtdaoliobmgcmoaaEtgY
import Derived.Deep.RegionHeld3
import Derived.Deep.QuietTactic
import Derived.BigQuiet
import Derived.SliceStrings
import Derived.Lib.SmallJoins
namespace Go.Proofs.Ytdaoliobmgcmoaa.etagLists
open Go.ChangeShapes Go.WideShapes Go.ChangeAt Go.RowKit
open Go.ChangeMaps (open_string shut_string)
set_option linter.unusedVariables false

theorem own : ownKnob Try.prog.godebug = none := by kernel_rfl
theorem laidOut : laidOutB Try.prog = true := by kernel_rfl

set_option maxHeartbeats 8000000 in
set_option maxRecDepth 100000 in
theorem walk (a0 : Option Addr) (len0 cap0 : Nat) (z0 : List (List UInt8)) (a1 : Bool) (b1 : ByteArray) (w : World) (w0 : SlS w a0 len0 cap0 z0 ∧ ∀ x ∈ z0, x.length ≤ maxLen) (w1 : b1.size ≤ maxLen) :
    Calls Try.prog 6 #[.slice a0 len0 cap0, .agg #[.bool a1, .string b1]] w fun e w' => e = .returned (.bool true) ∧ Below w.heap.size w w' := by
  have cx := fun W (_ : Below w.heap.size w W) => ex14_any W
  have CX := Lib.hid cx
  clear cx
  obtain ⟨hl0, hl1⟩ := w0
  have hlen := hl0.len
  subst hlen
  have HB : Hid (Below w.heap.size w (w.alloc (.cells #[.bool a1, .string b1] 23))) := (Below.refl _ _).alloc (Nat.le_refl _) _
  have Z0 : Hid ((w.alloc (.cells #[.bool a1, .string b1] 23)).heap[w.heap.size]? = some (.cells #[.bool a1, .string b1] 23 (0, 0))) := heap_alloc_new w _
  have HS : Hid (SlS (w.alloc (.cells #[.bool a1, .string b1] 23)) a0 z0.length cap0 z0) := hl0.alloc _
  clear hl0 hl1
  by_cases h0 : (20 : Int) < (z0.length : Int)
  · go_enter Try.func6, Try.ntmps6
    obtain ⟨x0, x1⟩ := zero_two Z0.out
    go_wp2_with fail
    refine (CX.out _ HB.out).mono ?_
    rintro e w9 ⟨rfl, hb9⟩
    go_wp2_with fail
    go_ret
    exact ⟨rfl, below_then HB.out hb9⟩
  · by_cases h1 : (200 : Int) < (b1.size : Int)
    · go_enter Try.func6, Try.ntmps6
      obtain ⟨x0, x1⟩ := zero_two Z0.out
      go_wp2_with fail
      refine (CX.out _ HB.out).mono ?_
      rintro e w9 ⟨rfl, hb9⟩
      go_wp2_with fail
      go_ret
      exact ⟨rfl, below_then HB.out hb9⟩
    · have hz20 : z0.length ≤ 20 := by omega
      go_enter Try.func6, Try.ntmps6
      obtain ⟨x0, x1⟩ := zero_two Z0.out
      go_wp2_with fail
      clear x0 x1
      generalize hW1 : w.alloc (.cells #[.bool a1, .string b1] 23) = W1 at *
      have HW1 := Lib.hid hW1
      clear hW1
      go_loopw [5, 6, 7] (fun s v i wr => ∃ (k : Nat) (S : ByteArray) (V : List (List UInt8)), k ≤ z0.length ∧ V.length ≤ k ∧ S.size ≤ k * 203 ∧ s = .string S ∧ i = .int .i64 k ∧ Hid (S = mkS (joT V)) ∧ Hid (OwnT wr W1.heap.size 23 v (joV V)) ∧ Hid (∀ y ∈ V, tgB (mkS y) = true ∧ y.length ≤ 200) ∧ Hid (Below W1.heap.size W1 wr)) (fun _ _ i _ => z0.length - (intOf i).toNat)
      case atStart => exact ⟨0, ⟨#[]⟩, [], Nat.zero_le _, Nat.zero_le _, Nat.zero_le _, rfl, rfl, rfl, OwnT.nil _ _ _, (fun _ h => absurd h (by simp)), Below.refl _ _⟩
      case round =>
        obtain ⟨k, S, V, hk, hV, hS, rfl, rfl, HST, HO, HV, HW⟩ := hrel
        have HZ := Lib.hid (zero_still HW.out Z0.out)
        have HBW := Lib.hid (below_then HB.out HW.out)
        by_cases hlt : k < z0.length
        · obtain ⟨ad, rfl, hc⟩ := HS.out.at_ (by omega)
          have hcell := cell_kept HW.out (hc k z0[k] (List.getElem?_eq_getElem hlt))
          generalize z0[k] = y at *
          have hys := mkS_size y
          have hi0 : (0 : Int) ≤ (k : Int) := by omega
          have hi1 : (k : Int) < (z0.length : Int) := by omega
          clear hc
          by_cases hy : 200 < y.length
          · have hy1 : (200 : Int) < ((mkS y).size : Int) := by omega
            generalize mkS y = Y at *
            have HB := HBW
            go_wp2_with fail
            refine (CX.out _ HB.out).mono ?_
            rintro e w9 ⟨rfl, hb9⟩
            go_wp2_with fail
            go_ret
            exact ⟨rfl, below_then HB.out hb9⟩
          · have hy1 : ¬ (200 : Int) < ((mkS y).size : Int) := by omega
            have K1 := Lib.hid (fun W => etP_any (mkS y) W (by omega))
            have hle := tgO_le (mkS y)
            have HY : Hid (y.length ≤ 200) := by show _ ≤ _; omega
            have hYs : ((mkS y).size : Int) ≤ 200 := by omega
            have hSs : (S.size : Int) ≤ 4060 := by omega
            have HTX : Hid (tgB (mkS y) = true → ∀ S, S = mkS (joT V) → (S ++ (⟨#[32, 44, 9]⟩ : ByteArray)) ++ mkS y = mkS (joT (V ++ [y]))) := fun _ S e => by
              subst e
              have : ((mkS (joT V) ++ (⟨#[32, 44, 9]⟩ : ByteArray)) ++ mkS y).data.toList = joT (V ++ [y]) := by rw [joT_snoc, append_list, append_list]; simp [mkS_list]
              rw [mkS_eq this]
            have hsz := fun (S2 : ByteArray) => (ByteArray.size_append : ((S ++ (⟨#[32, 44, 9]⟩ : ByteArray)) ++ S2).size = _)
            have hsz2 : ((S ++ (⟨#[32, 44, 9]⟩ : ByteArray)) ++ mkS y).size ≤ (k + 1) * 203 := by
              rw [ByteArray.size_append, ByteArray.size_append, hys]
              show S.size + 3 + _ ≤ _
              omega
            have HSZ := Lib.hid hsz2
            have hnx : tgB (mkS y) = true → ∀ z ∈ V ++ [y], tgB (mkS z) = true ∧ z.length ≤ 200 := fun h z hz => by
              rw [List.mem_append, List.mem_singleton] at hz
              rcases hz with hz | rfl
              · exact HV.out z hz
              · exact ⟨h, HY.out⟩
            have HNX := Lib.hid hnx
            have HYT : Hid ((tgO (mkS y)).2.size ≤ maxLen) := by
              show _ ≤ _
              have : (200 : Nat) ≤ maxLen := by decide
              omega
            clear hsz hsz2 hnx hle hys
            unfold tgV at K1
            generalize tgB (mkS y) = tb at *
            generalize hTY : tgO (mkS y) = TY at *
            have HTY := Lib.hid hTY
            clear hTY
            obtain ⟨ya, yb⟩ := TY
            simp only at *
            cases tb with
            | false =>
              go_wp2_with fail
              refine (K1.out _).mono ?_
              rintro e w2 ⟨rfl, hb⟩
              have HO2 := Lib.hid ((HO.out.below hb).alloc (.cells #[.bool ya, .string yb] 23))
              have hb3 := below_then HW.out hb
              have HW2 := Lib.hid (hb3.alloc hb3.size (.cells #[.bool ya, .string yb] 23))
              clear hb hb3
              go_wp2_with fail
              go_roundw
              case rel => exact ⟨k + 1, S, V, by omega, by omega, by omega, rfl, by go_num, HST, HO2, HV, HW2⟩
              case measure => simp [intOf]; omega
            | true =>
              have HT2 := Lib.hid (HTX.out rfl S HST.out)
              go_wp2_with fail
              refine (K1.out _).mono ?_
              rintro e w2 ⟨rfl, hb⟩
              have HO2 := Lib.hid ((HO.out.below hb).alloc (.cells #[.bool ya, .string yb] 23))
              have hb3 := below_then HW.out hb
              have HW2 := Lib.hid (hb3.alloc hb3.size (.cells #[.bool ya, .string yb] 23))
              have hcell := Lib.cell?_alloc_some (.cells #[.bool ya, .string yb] 23) (cell_kept hb hcell)
              generalize hW3 : w2.alloc (.cells #[.bool ya, .string yb] 23) = W3 at *
              have qz : W3.heap[w2.heap.size]? = some (.cells #[.bool ya, .string yb] 23 (0, 0)) := by rw [← hW3]; exact heap_alloc_new w2 _
              have qa := (zero_two qz).1
              have qb := (zero_two qz).2
              have hsz3 : W1.heap.size ≤ W3.heap.size := HW2.out.size
              have HVL := Lib.hid hV
              clear hb hb3
              go_wp2_with (at_builtin; refine wpList_append_slt rfl _ _ 27 rfl W1.heap.size 23 Try.underlying27 (by kernel_rfl) _ rfl (joV V) (HO2.out.alloc _) _ 1 1 rfl [(ya, yb)] (SlT.one W3 23 (ya, yb) HYT.out) (by simp [joV]; omega) (by simp; omega) W1 (HW2.out.alloc hsz3 _) ?_; intro v1 w4 ho1 hb1 hz1)
              go_roundw
              case rel => exact ⟨k + 1, _, V ++ [y], by omega, by simp; omega, HSZ.out, rfl, by go_num, HT2.out, by show OwnT _ _ _ _ _; rw [joV_snoc, HTY.out]; exact ho1.out, HNX.out (by simp), hb1⟩
              case measure => simp [intOf]; omega
        · have hi1 : ¬ (k : Int) < (z0.length : Int) := by omega
          have hVt : ∀ y ∈ V, tgB (mkS y) = true := fun y hy => (HV.out y hy).1
          have hXz : ∀ x ∈ joV V, x.2.size ≤ maxLen := fun x hx => by
            obtain ⟨y, hy, rfl⟩ := List.mem_map.1 hx
            have h1 := tgO_le (mkS y)
            have h2 := (HV.out y hy).2
            rw [mkS_size] at h1
            have : (200 : Nat) ≤ maxLen := by decide
            omega
          obtain ⟨A1, c1, rfl, hF⟩ := HO.out.slt hXz
          have HF := Lib.hid hF
          have hSL : S.size ≤ 100000000 := by omega
          have hls := jo_ls hVt
          have hja := jo_any (V := V)
          have hjm := fun t => jo_match hVt t
          have hlV : (joV V).length = V.length := by simp [joV]
          rw [← HST.out] at hls hja hjm
          have kl := fun W => etL_any S W hSL
          rw [hls.1, hls.2, hja] at kl
          have KL := Lib.hid (fun W (_ : Below w.heap.size w W) => kl W)
          have km := fun W (x : Tg) (hx : x ∈ joV V) => etM_any S x W hSL
          have hmem : ∀ x ∈ joV V, (joV V).any (fun z => wekB z x) = true := fun x hx => List.any_eq_true.2 ⟨x, hx, wek_refl x⟩
          have KM : Hid (∀ W x, x ∈ joV V → Below w.heap.size w W → Calls Try.prog 13 #[.string S, tgV x] W fun e w' => e = .returned (.bool true) ∧ Below W.heap.size W w') := fun W x hx _ => by
            have h := km W x hx
            rw [hjm x, hmem x hx] at h
            exact h
          have kt := fun W => etM_any S (a1, b1) W hSL
          rw [hjm] at kt
          have KT := Lib.hid (fun W (_ : Below w.heap.size w W) => kt W)
          have ka := fun W => etM_any ⟨#[42]⟩ (a1, b1) W (by decide)
          rw [any_star] at ka
          have KA := Lib.hid (fun W (_ : Below w.heap.size w W) => ka W)
          have KW := Lib.hid (fun W x (_ : Below w.heap.size w W) => etW_any x (a1, b1) W)
          have ks := fun W A B c d (h : SlT W A (joV V).length c (joV V)) (h' : SlT W B (joV V).length d (joV V)) (_ : Below w.heap.size w W) => r_etSame A B _ c _ d (joV V) (joV V) W h h' (by omega)
          simp only [samT_refl] at ks
          have KS := Lib.hid ks
          have HB := HBW
          have Z0 := HZ
          clear kl km kt ka ks hls hja hjm hmem hF hXz hVt HS HO HV HW HZ HBW HST
          rw [← hlV] at KL hV
          have hX20 : (joV V).length ≤ 20 := by omega
          unfold IsTs at KL
          generalize joV V = X at *
          generalize hP : (fun x => wekB x (a1, b1)) = P at *
          have HP : Hid (∀ x, P x = wekB x (a1, b1)) := fun x => by rw [← hP]
          clear hP hlV
          obtain ⟨E, hE⟩ : ∃ E : Int, (if X.length = 0 then (5 : Int) else 0) = E := ⟨_, rfl⟩
          rw [hE] at KL
          obtain ⟨B, hB1, hB2⟩ : ∃ B : Bool, (E == 0) = B ∧ decide ((0 : Int) < (X.length : Int)) = B := by
            refine ⟨_, rfl, ?_⟩
            rw [← hE]
            by_cases hn : X.length = 0
            · rw [if_pos hn, decide_eq_false (by omega)]; rfl
            · rw [if_neg hn, decide_eq_true (by omega)]; rfl
          have HB4 : Hid (B = decide (0 < X.length)) := by
            show _ = _
            rw [← hB2]
            simp
          have hB3 : (B != B) = false := by simp
          clear hE
          have hany : Hid (X.any P = (false || (X.drop 0).any P)) := by show _ = _; rw [List.drop_zero]; rfl
          go_wp2_with fail
          refine (KL.out _ HB.out).mono ?_
          rintro e w3 ⟨A3, c3, rfl, hG, hb⟩
          have Z0 := Lib.hid (zero_still hb Z0.out)
          have HF := Lib.hid (HF.out.below hb)
          have HB := Lib.hid (below_then HB.out hb)
          clear hb
          have HG := Lib.hid hG
          clear hG
          go_wp2_with fail
          refine (KS.out _ _ _ _ _ HG.out HF.out HB.out).mono ?_
          rintro e w4 ⟨rfl, hb⟩
          have Z0 := Lib.hid (zero_still hb Z0.out)
          have HF := Lib.hid (HF.out.below hb)
          have HB := Lib.hid (below_then HB.out hb)
          clear hb
          go_wp2_with fail
          all_goals try exact absurd HB4.out (by assumption)
          go_loopw [13, 14] (fun a i wr => ∃ (k : Nat) (q : Bool), k ≤ X.length ∧ a = .bool q ∧ i = .int .i64 k ∧ Hid (X.any P = (q || (X.drop k).any P)) ∧ Hid (wr.heap[w.heap.size]? = some (.cells #[.bool a1, .string b1] 23 (0, 0))) ∧ Hid (SlT wr A1 X.length c1 X) ∧ Hid (Below w.heap.size w wr)) (fun _ i _ => X.length - (intOf i).toNat)
          case atStart => exact ⟨0, _, Nat.zero_le _, rfl, rfl, hany.out, Z0.out, HF.out, HB.out⟩
          case round =>
            clear hany Z0 HF HB
            obtain ⟨k, q, hk, rfl, rfl, hf, Z0, HF, HB⟩ := hrel
            by_cases hlt : k < X.length
            · have hi0 : (0 : Int) ≤ (k : Int) := by omega
              have hi1 : (k : Int) < (X.length : Int) := by omega
              have hst := any_drop P X k hlt
              obtain ⟨ad, rfl, hc⟩ := HF.out.at_ (by omega)
              obtain ⟨hc0, hc1⟩ := hc k X[k] (List.getElem?_eq_getElem hlt)
              have hc1 := fd_snd hc1
              have hPX := HP.out X[k]
              have KMX := Lib.hid (fun W hW => KM.out W X[k] (List.getElem_mem hlt) hW)
              generalize X[k] = x at *
              obtain ⟨xa, xb⟩ := x
              have CWX := Lib.hid (fun W hW => KW.out W (xa, xb) hW)
              unfold tgV at KMX CWX
              rw [hPX] at hst
              generalize wekB (xa, xb) (a1, b1) = Q at *
              have hD0 := hc0
              have hD1 := hc1
              clear hc hPX
              go_wp2_with fail
              refine (KMX.out _ HB.out).mono ?_
              rintro e w5 ⟨rfl, hb⟩
              have hD0 := cell_kept hb hD0
              have hD1 := cell_kept hb hD1
              have Z0 := Lib.hid (zero_still hb Z0.out)
              have HF := Lib.hid (HF.out.below hb)
              have HB := Lib.hid (below_then HB.out hb)
              clear hb hc0 hc1
              cases q with
              | true =>
                have HR : Hid (X.any P = (true || (X.drop (k + 1)).any P)) := hf.out
                clear hf hst
                go_wp2_with fail
                go_quiet (fail)
                go_wp2_with fail
                go_roundw
                case rel => exact ⟨k + 1, true, by omega, rfl, by go_num, HR, Z0.out, HF.out.keep fun _ _ h => h, below_drawn HB.out _⟩
                case measure => simp [intOf]; omega
              | false =>
                have HR : Hid (X.any P = (Q || (X.drop (k + 1)).any P)) := by show _ = _; rw [hf.out, hst]; rfl
                have HC : Hid (w5.drew.cell? (ad.add (k * 2)) = some (.bool xa) ∧ w5.drew.cell? { block := (ad.add (k * 2)).block, off := (ad.add (k * 2)).off + 1 } = some (.string xb) ∧ w5.drew.cell? ⟨w.heap.size, 0, none⟩ = some (.bool a1) ∧ w5.drew.cell? ⟨w.heap.size, 1, none⟩ = some (.string b1)) := ⟨hD0, hD1, (zero_two Z0.out).1, (zero_two Z0.out).2⟩
                have HB := Lib.hid HB.out.drew
                have Z0 : Hid (w5.drew.heap[w.heap.size]? = some (.cells #[.bool a1, .string b1] 23 (0, 0))) := Z0.out
                have HF := Lib.hid HF.out.drew
                clear hf hst
                go_wp2_with fail
                go_region_held3 (fun W => W.cell? (ad.add (k * 2)) = some (.bool xa) ∧ W.cell? { block := (ad.add (k * 2)).block, off := (ad.add (k * 2)).off + 1 } = some (.string xb) ∧ W.cell? ⟨w.heap.size, 0, none⟩ = some (.bool a1) ∧ W.cell? ⟨w.heap.size, 1, none⟩ = some (.string b1)) (exact HC.out) (first
                  | (go_at_call 19; refine (CWX.out _ HB.out).mono ?_; rintro e w2 ⟨rfl, hb2⟩; have HC : Hid (w2.cell? (ad.add (k * 2)) = some (.bool xa) ∧ w2.cell? { block := (ad.add (k * 2)).block, off := (ad.add (k * 2)).off + 1 } = some (.string xb) ∧ w2.cell? ⟨w.heap.size, 0, none⟩ = some (.bool a1) ∧ w2.cell? ⟨w.heap.size, 1, none⟩ = some (.string b1)) := ⟨cell_kept hb2 HC.out.1, cell_kept hb2 HC.out.2.1, cell_kept hb2 HC.out.2.2.1, cell_kept hb2 HC.out.2.2.2⟩; have Z0 := Lib.hid (zero_still hb2 Z0.out); have HF := Lib.hid (HF.out.below hb2); have HB := Lib.hid (below_then HB.out hb2); clear hb2))
                go_wp2_with fail
                go_roundw
                case rel => exact ⟨k + 1, Q, by omega, rfl, by go_num, HR, Z0.out, HF.out, HB.out⟩
                case measure => simp [intOf]; omega
            · have HR : Hid (X.any P = q) := by show _ = _; rw [hf.out, List.drop_eq_nil_of_le (by omega)]; simp
              have hi1 : ¬ (k : Int) < (X.length : Int) := by omega
              have kt := KT.out
              rw [HR.out] at kt
              have KT := Lib.hid kt
              have e1 : (q == q) = true := by simp
              obtain ⟨x0, x1⟩ := zero_two Z0.out
              clear hf kt
              unfold tgV at KT KA
              go_wp2_with fail
              refine (KT.out _ HB.out).mono ?_
              rintro e w6 ⟨rfl, hb⟩
              have Z0 := Lib.hid (zero_still hb Z0.out)
              have HB := Lib.hid (below_then HB.out hb)
              clear hb
              clear x0 x1
              obtain ⟨x0, x1⟩ := zero_two Z0.out
              go_wp2_with fail
              refine (KA.out _ HB.out).mono ?_
              rintro e w7 ⟨rfl, hb⟩
              have Z0 := Lib.hid (zero_still hb Z0.out)
              have HB := Lib.hid (below_then HB.out hb)
              clear hb
              clear x0 x1
              go_wp2_with fail
              refine (CX.out _ HB.out).mono ?_
              rintro e w9 ⟨rfl, hb9⟩
              go_wp2_with fail
              go_ret
              exact ⟨rfl, below_then HB.out hb9⟩

set_option maxRecDepth 100000 in
theorem lifted (os : Os) (started : os.Started) (H : Type) (enc : TypeId × Value → H) :
    ReturnsInHanded {} Try.checked os 6 .any (Rows.etagListsSpec.pre6 enc Try.prog Try.f6 Rows.etagListsRow.domain false) (Rows.etagListsSpec.post enc Try.prog Try.f6 false true false false) := by
  refine returnsInHanded_of_change (C := Try.checked) own started (by kernel_rfl) Try.func6
    (ChangeSpec.witness6 (enc := enc) (C := Try.checked) false ⟨#[], #[.slice none 0 0, .agg #[.bool false, .string ByteArray.empty]], []⟩ 8 (by kernel_rfl) (by kernel_rfl) (by kernel_rfl) (by kernel_rfl)) ?_
  intro W base args ds gs before hval0 hW hcnd _
  have hval : ∀ (j : Nat) t v, Try.f6.params[j]? = some t → args[j]? = some v → Value.okWide Try.prog W .any base t v := hval0
  have hW' := hW
  obtain ⟨p, q, hA0, hV, rfl, hfz, hnd⟩ := hW
  have hA : DataW.TrodAll enc Try.prog W 0 (fun _ => true) true Try.f6.params.toList args.toList ds p := hA0
  rw [Try.params6] at hA hval
  obtain ⟨v0, vs0, d0, ds0, p0, q0, hargs, rfl, rfl, h0, r0⟩ := trodAll_cons hA
  obtain ⟨v1, vs1, d1, ds1, p1, q1, rfl, rfl, rfl, h1, r1⟩ := trodAll_cons r0
  obtain ⟨rfl, rfl, rfl⟩ := trodAll_nil r1
  obtain rfl : args = #[v0, v1] := by cases args; simp_all
  obtain ⟨rfl, rfl⟩ := trodVars_none hV
  obtain ⟨a0, len0, cap0, rfl⟩ := okWide_slice Try.underlying37 (hval 0 37 v0 rfl rfl)
  have k0 := h0
  have lt0 : ∀ x ∈ p0, x.block < W.heap.size := by obtain ⟨m, hm⟩ := k0; exact DataW.trod_lt m _ _ _ hm
  obtain ⟨z0, w0⟩ : ∃ L, SlS W a0 len0 cap0 L ∧ ∀ x ∈ L, x.length ≤ maxLen := by
    obtain ⟨fuel, hf⟩ := h0
    rcases open_strings Try.underlying37 Try.underlying9 (by kernel_rfl) hf with ⟨hcs, _⟩ | ⟨x, l, c, ss, hcs, _, hl, hm, hz, _, hcell, hwz⟩
    · simp [Value.cells] at hcs
      obtain ⟨rfl, rfl, rfl⟩ := hcs
      exact SlS.of_row (z := []) (.inl ⟨rfl, rfl, rfl, rfl⟩)
    · simp [Value.cells] at hcs
      obtain ⟨rfl, rfl, rfl⟩ := hcs
      exact SlS.of_row (z := ss) (.inr ⟨_, rfl, hl, hm, by simpa using hz, hcell, hwz⟩)
  obtain ⟨f0, f1, y0, y1, m, rfl, rfl, rfl, hy0, hy1⟩ := Go.Joins.open_agg2 Try.underlying23 (by kernel_rfl) (by kernel_rfl) (hval 1 23 v1 rfl rfl) h1
  obtain ⟨a1, e0, rfl⟩ := DataW.trod_bool Try.underlying4 hy0
  obtain ⟨b1, e1, rfl, w1⟩ := DataW.trod_string Try.underlying9 hy1
  simp at e0 e1
  subst e0 e1
  clear hA0 hval0
  refine (walk a0 len0 cap0 z0 a1 b1 W w0 w1).mono fun e W' ⟨he, bel⟩ => ?_
  subst he
  exact ⟨_, rfl, _, _, _, [], _, [], hW', trodAll_mk1 (shut_bool Try.underlying4 _), (trodAll_cons_mk (Below.trod laidOut (by kernel_rfl) (of_decide_eq_true (by kernel_rfl)) k0 bel lt0) (trodAll_cons_mk (Go.Joins.shut_agg2 Try.underlying23 (by kernel_rfl) (by kernel_rfl) (Go.Joins.field_of_Trod (shut_bool Try.underlying4 _) rfl) (Go.Joins.field_of_Trod (shut_string Try.underlying9 w1) rfl)) trodAll_mk0)), rfl, bel.frame _, fun h => by cases h⟩

theorem over : Rows.etagListsRow.holds Try.pinned (OpenSpec.ofChange Rows.etagListsSpec) :=
  OpenClaim.holds_of_wide 6 Try.f6 rfl rfl rfl rfl rfl rfl rfl ⟨rfl, rfl, rfl, rfl, rfl⟩ rfl rfl rfl rfl rfl (by kernel_rfl) Try.func6 (by kernel_rfl)
    (of_decide_eq_true (by kernel_rfl)) (by unfold Func.isWrapper; first | (rw [if_pos (by decide +kernel)]; kernel_rfl) | (rw [if_neg (by decide +kernel)]; exact ⟨rfl, rfl⟩))
    (fun os started H enc _ => lifted os started H enc)

theorem proved : Rows.EtagListsSaid := over
#print axioms proved
end Go.Proofs.Ytdaoliobmgcmoaa.etagLists
