/-
  The law VaryOwn (depotlaw15) returns true for every list of names, of fields, and every field, and leaves what it was given as it was. No condition.
-/
import Derived.Test.YtmpgenflohdghaaRows
import Derived.WalkKit
import Derived.ProofKit
import Derived.OpenShut
import Derived.ShutString
import Derived.ChangeOld
import Derived.Below
import Derived.Test.YtmpgenflohdghaaMrgA
import Derived.Test.YtmpgenflohdghaaMrgB
import Derived.Test.YtmpgenflohdghaaMrgC
import Derived.Test.YtmpgenflohdghaaMrgD
import Derived.Test.YtmpgenflohdghaaMrgE
import Derived.Test.YtmpgenflohdghaaMrgF
import Derived.Test.YtmpgenflohdghaaMrgG
import Derived.Test.YtmpgenflohdghaaMrgH
import Derived.Test.YtmpgenflohdghaaMrgI
import Derived.Test.YtmpgenflohdghaaMrgJ
import Derived.Test.YtmpgenflohdghaaMrgK
import Derived.Test.YtmpgenflohdghaaMrgL
import Derived.Test.YtmpgenflohdghaaMrgM
import Derived.Test.YtmpgenflohdghaaMrgN
import Derived.Test.YtmpgenflohdghaaMrgO
import Derived.Test.YtmpgenflohdghaaMrgP
import Derived.Test.YtmpgenflohdghaaMrgQ
import Derived.Test.YtmpgenflohdghaaMrgR
import Derived.Test.YtmpgenflohdghaaMrgS
import Derived.Deep.RegionHeld3
import Derived.SliceStrings
import Derived.Lib.SmallJoins
namespace Go.Proofs.Ytmpgenflohdghaa.varyOwn
open Go.ChangeShapes Go.WideShapes Go.ChangeAt Go.RowKit
open Go.ChangeMaps (open_string shut_string)
set_option linter.unusedVariables false

theorem own : ownKnob Try.prog.godebug = none := by kernel_rfl
theorem laidOut : laidOutB Try.prog = true := by kernel_rfl

set_option maxHeartbeats 8000000 in
set_option maxRecDepth 100000 in
theorem walk (a0 : Option Addr) (len0 cap0 : Nat) (z0 : List (List UInt8)) (a1 : Option Addr) (len1 cap1 : Nat) (z1 : List Fd) (a2 b2 : ByteArray) (w : World) (w0 : SlS w a0 len0 cap0 z0 ∧ ∀ x ∈ z0, x.length ≤ maxLen) (w1 : SlF w a1 len1 cap1 z1) (w2 : a2.size ≤ maxLen ∧ b2.size ≤ maxLen) :
    Calls Try.prog 5 #[.slice a0 len0 cap0, .slice a1 len1 cap1, .agg #[.string a2, .string b2]] w fun e w' => e = .returned (.bool true) ∧ Below w.heap.size w w' := by
  obtain ⟨w0, _⟩ := w0
  have hlen0 := w0.len
  have hlen1 := w1.len
  subst hlen0 hlen1
  have cx := fun W (_ : Below w.heap.size w W) => ex15_any W
  have CX := Lib.hid cx
  clear cx
  have HB : Hid (Below w.heap.size w (w.alloc (.cells #[.string a2, .string b2] 38))) := (Below.refl _ _).alloc (Nat.le_refl _) _
  have Z0 : Hid ((w.alloc (.cells #[.string a2, .string b2] 38)).heap[w.heap.size]? = some (.cells #[.string a2, .string b2] 38 (0, 0))) := heap_alloc_new w _
  have HN : Hid (SlS (w.alloc (.cells #[.string a2, .string b2] 38)) a0 z0.length cap0 z0) := w0.alloc _
  have HF : Hid (SlF (w.alloc (.cells #[.string a2, .string b2] 38)) a1 z1.length cap1 z1) := w1.alloc _
  have HZ2 := Lib.hid w2
  have cf := fun W (h : SlF W a1 z1.length cap1 z1) => few70 500 500 rfl a1 z1.length cap1 z1 W h
  have cn := fun W (h : SlS W a0 z0.length cap0 z0) => r_fewN a0 z0.length cap0 z0 W h
  have c1 := fun W A (h : SlF W A 1 1 [(a2, b2)]) => rf_few A 1 1 1 500 [(a2, b2)] W h (by decide)
  clear w0 w1 w2
  cases hf : fewB z1 70 500 with
  | false =>
    rw [hf] at cf
    have CF := Lib.hid cf
    clear cf cn c1 hf
    go_enter Try.func5, Try.ntmps5
    go_wp2_with fail
    refine (CF.out _ HF.out).mono ?_
    rintro e v1 ⟨rfl, rfl⟩
    go_wp2_with fail
    refine (CX.out _ HB.out).mono ?_
    rintro e w9 ⟨rfl, hb9⟩
    go_wp2_with fail
    go_ret
    exact ⟨rfl, below_then HB.out hb9⟩
  | true =>
    rw [hf] at cf
    have CF := Lib.hid cf
    cases hn : fewN z0 with
    | false =>
      rw [hn] at cn
      have CN := Lib.hid cn
      clear cf cn c1 hf hn
      go_enter Try.func5, Try.ntmps5
      go_wp2_with fail
      refine (CF.out _ HF.out).mono ?_
      rintro e v1 ⟨rfl, rfl⟩
      go_wp2_with fail
      refine (CN.out _ HN.out).mono ?_
      rintro e w1 ⟨rfl, hb⟩
      have HN := Lib.hid (HN.out.below hb)
      have HF := Lib.hid (HF.out.below hb)
      have Z0 := Lib.hid (zero_still hb Z0.out)
      have HB := Lib.hid (below_then HB.out hb)
      clear hb
      go_wp2_with fail
      refine (CX.out _ HB.out).mono ?_
      rintro e w9 ⟨rfl, hb9⟩
      go_wp2_with fail
      go_ret
      exact ⟨rfl, below_then HB.out hb9⟩
    | true =>
      rw [hn] at cn
      have CN := Lib.hid cn
      cases h1 : fewB [(a2, b2)] 1 500 with
      | false =>
        rw [h1] at c1
        have C1 := Lib.hid c1
        clear cf cn c1 hf hn h1
        go_enter Try.func5, Try.ntmps5
        go_wp2_with fail
        refine (CF.out _ HF.out).mono ?_
        rintro e v1 ⟨rfl, rfl⟩
        go_wp2_with fail
        refine (CN.out _ HN.out).mono ?_
        rintro e w1 ⟨rfl, hb⟩
        have HN := Lib.hid (HN.out.below hb)
        have HF := Lib.hid (HF.out.below hb)
        have Z0 := Lib.hid (zero_still hb Z0.out)
        have HB := Lib.hid (below_then HB.out hb)
        clear hb
        obtain ⟨y0, y1⟩ := zero_two Z0.out
        go_wp2_with fail
        have HL1 := Lib.hid (SlF.one w1 38 (a2, b2) HZ2.out)
        have HN := Lib.hid (HN.out.alloc (.cells #[.string a2, .string b2] 38))
        have HF := Lib.hid (HF.out.alloc (.cells #[.string a2, .string b2] 38))
        have Z0 := Lib.hid (zero_more (o' := .cells #[.string a2, .string b2] 38) Z0.out)
        have HB := Lib.hid (HB.out.alloc HB.out.size (.cells #[.string a2, .string b2] 38))
        refine (C1.out _ _ HL1.out).mono ?_
        rintro e v2 ⟨rfl, rfl⟩
        clear y0 y1
        go_wp2_with fail
        refine (CX.out _ HB.out).mono ?_
        rintro e w9 ⟨rfl, hb9⟩
        go_wp2_with fail
        go_ret
        exact ⟨rfl, below_then HB.out hb9⟩
      | true =>
        rw [h1] at c1
        have C1 := Lib.hid c1
        have gF := fwf_of hf
        have gN := fwn_of hn
        have gf := few_yes h1
        have gy := few_yes hf
        have g2 : a2.size ≤ 500 ∧ b2.size ≤ 500 := gf.2 (a2, b2) (by simp)
        have gP := pks_fw gN z1
        have hXl : (pksL z0 z1).length = z0.length := by unfold pksL; rw [List.length_map]
        have K1 := Lib.hid (fun W (h : SlS W a0 z0.length cap0 z0) (h' : SlF W a1 z1.length cap1 z1) (_ : Below w.heap.size w W) => varK_any a0 a1 cap0 cap1 z0 z1 W h h' gN gF)
        have k2 := fun W A c (h : SlK W A (pksL z0 z1).length c (pksL z0 z1)) (h' : SlF W a1 z1.length cap1 z1) (_ : Below w.heap.size w W) => varM_any A a1 c cap1 (pksL z0 z1) z1 W h h' gP gF
        simp only [own_match] at k2
        have k3 := fun W (h' : SlF W a1 z1.length cap1 z1) (_ : Below w.heap.size w W) => varM_any none a1 0 cap1 [] z1 W (SlK.none_ W) h' ⟨Nat.zero_le _, fun _ h => absurd h (by simp)⟩ gF
        simp only [none_match] at k3
        have K2 := Lib.hid k2
        have K3 := Lib.hid k3
        have hMF : FwF ((a2, b2) :: z1.map loF) := by
          refine ⟨by have := gy.1; rw [List.length_cons, List.length_map]; omega, fun x hx => ?_⟩
          rw [List.mem_cons] at hx
          rcases hx with rfl | hx
          · exact ⟨by show b2.size ≤ _; omega, by show a2.size ≤ _; omega⟩
          · obtain ⟨y, hy, rfl⟩ := List.mem_map.1 hx
            have := gy.2 y hy
            exact ⟨by show y.2.size ≤ _; omega, by show (mkS (lowL y.1.data.toList)).size ≤ _; rw [mkS_size, low_len, ← Lib.size_eq]; omega⟩
        have HMZ : Hid (∀ x ∈ (a2, b2) :: z1.map loF, x.1.size ≤ maxLen ∧ x.2.size ≤ maxLen) := fun x hx => by
          have hml : (500 : Nat) ≤ maxLen := by decide
          rw [List.mem_cons] at hx
          rcases hx with rfl | hx
          · exact ⟨by show a2.size ≤ _; omega, by show b2.size ≤ _; omega⟩
          · obtain ⟨y, hy, rfl⟩ := List.mem_map.1 hx
            have := gy.2 y hy
            exact ⟨by show (mkS (lowL y.1.data.toList)).size ≤ _; rw [low_size]; omega, by show y.2.size ≤ _; omega⟩
        have k4 := fun (hs : ∀ x ∈ z0, sameB (mkS x) a2 = false) W A B c d (h : SlK W A (pksL z0 z1).length c (pksL z0 z1)) (h' : SlF W B ((a2, b2) :: z1.map loF).length d ((a2, b2) :: z1.map loF)) (_ : Below w.heap.size w W) => (by
          have := varM_any A B c d (pksL z0 z1) ((a2, b2) :: z1.map loF) W h h' gP hMF
          rw [more_match z0 (a2, b2) z1 hs] at this
          exact this : Calls Try.prog 17 #[.slice A (pksL z0 z1).length c, .slice B ((a2, b2) :: z1.map loF).length d] W fun e w' => e = .returned (.bool true) ∧ Below W.heap.size W w')
        have K4 := Lib.hid k4
        have HGY := Lib.hid gy.2
        have HGN := Lib.hid gN.2
        have hn1 := gN.1
        have hn2 := gy.1
        have hl2 : a2.size ≤ maxLen := Nat.le_trans g2.1 (by decide)
        have CSM := Lib.hid (fun W (x : List UInt8) (hx : x.length ≤ 10000) => same_any (mkS x) a2 W (by rw [mkS_size]; exact Nat.le_trans hx (by decide)) hl2)
        have hXb : (((pksL z0 z1).length : Int) != (z0.length : Int)) = false := by rw [hXl]; simp
        unfold IsPk at *
        clear cf cn c1 hf hn h1 gF gN gf gy gP k2 k3 k4 hMF hl2 hXl
        generalize pksL z0 z1 = X at *
        go_enter Try.func5, Try.ntmps5
        go_wp2_with fail
        refine (CF.out _ HF.out).mono ?_
        rintro e v1 ⟨rfl, rfl⟩
        go_wp2_with fail
        refine (CN.out _ HN.out).mono ?_
        rintro e w1 ⟨rfl, hb⟩
        have HN := Lib.hid (HN.out.below hb)
        have HF := Lib.hid (HF.out.below hb)
        have Z0 := Lib.hid (zero_still hb Z0.out)
        have HB := Lib.hid (below_then HB.out hb)
        clear hb
        obtain ⟨y0, y1⟩ := zero_two Z0.out
        go_wp2_with fail
        have HL1 := Lib.hid (SlF.one w1 38 (a2, b2) HZ2.out)
        have HN := Lib.hid (HN.out.alloc (.cells #[.string a2, .string b2] 38))
        have HF := Lib.hid (HF.out.alloc (.cells #[.string a2, .string b2] 38))
        have Z0 := Lib.hid (zero_more (o' := .cells #[.string a2, .string b2] 38) Z0.out)
        have HB := Lib.hid (HB.out.alloc HB.out.size (.cells #[.string a2, .string b2] 38))
        refine (C1.out _ _ HL1.out).mono ?_
        rintro e v2 ⟨rfl, rfl⟩
        clear y0 y1
        go_wp2_with fail
        refine (K1.out _ HN.out HF.out HB.out).mono ?_
        rintro e w3 ⟨A3, c3, rfl, hK, hb⟩
        have HN := Lib.hid (HN.out.below hb)
        have HF := Lib.hid (HF.out.below hb)
        have Z0 := Lib.hid (zero_still hb Z0.out)
        have HB := Lib.hid (below_then HB.out hb)
        clear hb
        have HK := Lib.hid hK
        clear hK
        go_wp2_with fail
        refine (K2.out _ _ _ HK.out HF.out HB.out).mono ?_
        rintro e w4 ⟨rfl, hb⟩
        have HN := Lib.hid (HN.out.below hb)
        have HF := Lib.hid (HF.out.below hb)
        have Z0 := Lib.hid (zero_still hb Z0.out)
        have HK := Lib.hid (HK.out.below hb)
        have HB := Lib.hid (below_then HB.out hb)
        clear hb
        go_wp2_with fail
        refine (K3.out _ HF.out HB.out).mono ?_
        rintro e w5 ⟨rfl, hb⟩
        have HN := Lib.hid (HN.out.below hb)
        have HF := Lib.hid (HF.out.below hb)
        have Z0 := Lib.hid (zero_still hb Z0.out)
        have HK := Lib.hid (HK.out.below hb)
        have HB := Lib.hid (below_then HB.out hb)
        clear hb
        obtain ⟨y0, y1⟩ := zero_two Z0.out
        go_wp2_with fail
        have HO := Lib.hid (ownF_one w5 38 (a2, b2) (Nat.le_refl w5.heap.size))
        have HB6 : Hid (Below w5.heap.size w5 (w5.alloc (.cells #[.string a2, .string b2] 38))) := (Below.refl _ _).alloc (Nat.le_refl _) _
        clear y0 y1
        go_loopw [8, 9] (fun v i wr => ∃ k : Nat, k ≤ z1.length ∧ i = .int .i64 k ∧ Hid (OwnF wr w5.heap.size 38 v ((a2, b2) :: (z1.take k).map loF)) ∧ Hid (Below w5.heap.size w5 wr)) (fun _ i _ => z1.length - (intOf i).toNat)
        case atStart => exact ⟨0, Nat.zero_le _, rfl, HO.out, HB6.out⟩
        case round =>
          clear HO HB6
          obtain ⟨k, hk, rfl, HO, HQ⟩ := hrel
          by_cases hlt : k < z1.length
          · have hFr := HF.out.below HQ.out
            obtain ⟨ad, rfl, hc⟩ := hFr.at_ (by omega)
            obtain ⟨hc0, hc1⟩ := hc k z1[k] (List.getElem?_eq_getElem hlt)
            have hc1 := fd_snd hc1
            have hi0 : (0 : Int) ≤ (k : Int) := by omega
            have hi1 : (k : Int) < (z1.length : Int) := by omega
            have HT := Lib.hid (lo_take z1 k hlt)
            have hsz := HGY.out _ (List.getElem_mem hlt)
            have hXl : ((a2, b2) :: (z1.take k).map loF).length ≤ 71 := by rw [List.length_cons, List.length_map, List.length_take]; omega
            generalize z1[k] = x at *
            obtain ⟨xa, xb⟩ := x
            simp only at hc0 hc1 hsz
            have hxa : xa.size ≤ maxLen := Nat.le_trans hsz.1 (by decide)
            have hxb : xb.size ≤ maxLen := Nat.le_trans hsz.2 (by decide)
            have CL := Lib.hid (fun W => lower_any xa W hxa)
            have hlo : loF (xa, xb) = (mkS (lowL xa.data.toList), xb) := rfl
            have hll : (mkS (lowL xa.data.toList)).size ≤ maxLen := by rw [low_size]; exact hxa
            rw [hlo] at HT
            obtain ⟨la, hla⟩ : ∃ la, mkS (lowL xa.data.toList) = la := ⟨_, rfl⟩
            rw [hla] at CL HT hll
            have HLL := Lib.hid hll
            have HXB := Lib.hid hxb
            have HT2 : Hid ((a2, b2) :: (z1.take (k + 1)).map loF = ((a2, b2) :: (z1.take k).map loF) ++ [(la, xb)]) := by show _ = _; rw [HT.out]; rfl
            clear HT
            generalize (a2, b2) :: (z1.take k).map loF = M at *
            clear hc hsz hxa hxb hlo hla hll hFr
            generalize hW2 : wr.alloc (.cells #[.string xa, .string xb] 38) = W2 at *
            have qz : W2.heap[wr.heap.size]? = some (.cells #[.string xa, .string xb] 38 (0, 0)) := by rw [← hW2]; exact heap_alloc_new wr _
            obtain ⟨qa, qb⟩ := zero_two qz
            have HW2 : Hid (Below wr.heap.size wr W2) := by show Below _ _ _; rw [← hW2]; exact (Below.refl _ _).alloc (Nat.le_refl _) _
            have HLT2 : Hid (wr.heap.size < W2.heap.size) := by show _ < _; rw [← hW2]; simp
            go_wp2_with fail
            refine (CL.out _).mono ?_
            rintro e w7 ⟨rfl, hb⟩
            have qz7 := zero_still hb qz
            obtain ⟨r0, r1⟩ := zero_two qz7
            have rf := fd_fz (k := 0) qz7
            have qz8 := fd_set0 (b := .string la) qz7
            obtain ⟨u0, u1⟩ := zero_two qz8
            have HW8 := Lib.hid (((HW2.out.trans (hb.mono (Nat.le_of_lt HLT2.out))).setCell (p := ⟨wr.heap.size, 0, none⟩) (Nat.le_refl _) (.string la)))
            have HO8 := Lib.hid (HO.out.below HW8.out)
            have HQ8 := Lib.hid (below_then HQ.out HW8.out)
            have HSZ8 := Lib.hid (show w5.heap.size ≤ (w7.setCell ⟨wr.heap.size, 0, none⟩ (.string la)).heap.size from HQ8.out.size)
            clear hW2 qz qa qb hb qz7 qz8
            go_wp2_with (at_builtin; refine wpList_append_slf rfl _ _ 22 rfl w5.heap.size 38 Try.underlying22 (by kernel_rfl) _ rfl M (HO8.out.alloc _) _ 1 1 rfl [(la, xb)] (slf_oneAt (w7.setCell ⟨wr.heap.size, 0, none⟩ (.string la)) 38 (la, xb) ⟨HLL.out, HXB.out⟩ (by simp [World.setCell])) (by simp; omega) (Nat.le_trans HSZ8.out (by simp)) w5 (HQ8.out.alloc HSZ8.out _) ?_; intro v9 w9 ho9 hb9 hz9)
            go_roundw
            case rel => exact ⟨k + 1, by omega, by go_num, by show OwnF _ _ _ _ _; rw [HT2.out]; exact ho9.out, hb9⟩
            case measure => simp [intOf]; omega
          · have hTk : z1.take k = z1 := List.take_of_length_le (by omega)
            rw [hTk] at HO
            obtain ⟨A7, c7, hv, hM⟩ := HO.out.slf HMZ.out
            subst hv
            have HM := Lib.hid hM
            have HN := Lib.hid (HN.out.below HQ.out)
            have HK := Lib.hid (HK.out.below HQ.out)
            have Z0 := Lib.hid (zero_still HQ.out Z0.out)
            have HB := Lib.hid (below_then HB.out HQ.out)
            have hi1 : ¬ (k : Int) < (z1.length : Int) := by omega
            clear hM HO HQ HF
            generalize (a2, b2) :: z1.map loF = M at *
            go_wp2_with fail
            go_loopw [11] (fun i wr => ∃ j : Nat, j ≤ z0.length ∧ i = .int .i64 j ∧ Hid (∀ x ∈ z0.take j, sameB (mkS x) a2 = false) ∧ Hid (SlS wr a0 z0.length cap0 z0) ∧ Hid (SlK wr A3 X.length c3 X) ∧ Hid (SlF wr A7 M.length c7 M) ∧ Hid (wr.heap[w.heap.size]? = some (.cells #[.string a2, .string b2] 38 (0, 0))) ∧ Hid (Below w.heap.size w wr)) (fun i _ => z0.length - (intOf i).toNat)
            case atStart => exact ⟨0, Nat.zero_le _, rfl, (fun _ h => absurd h (by simp)), HN.out, HK.out, HM.out, Z0.out, HB.out⟩
            case round =>
              clear HN HK HM Z0 HB
              obtain ⟨j, hj, rfl, hs, HN, HK, HM, Z0, HB⟩ := hrel
              by_cases hjl : j < z0.length
              · obtain ⟨bd, rfl, hd⟩ := HN.out.at_ (by omega)
                have hcell := hd j z0[j] (List.getElem?_eq_getElem hjl)
                have hj0 : (0 : Int) ≤ (j : Int) := by omega
                have hj1 : (j : Int) < (z0.length : Int) := by omega
                have HST : Hid (sameB (mkS z0[j]) a2 = false → ∀ x ∈ z0.take (j + 1), sameB (mkS x) a2 = false) := fun h x hx => by
                  rw [List.take_succ_eq_append_getElem hjl, List.mem_append, List.mem_singleton] at hx
                  rcases hx with hx | rfl
                  · exact hs.out x hx
                  · exact h
                have CS := Lib.hid (fun W => CSM.out W z0[j] (HGN.out _ (List.getElem_mem hjl)))
                generalize z0[j] = y at *
                generalize mkS y = ys at *
                have HC : Hid (wr.drew.cell? (bd.add j) = some (.string ys) ∧ wr.drew.cell? ⟨w.heap.size, 0, none⟩ = some (.string a2)) := ⟨hcell, (zero_two Z0.out).1⟩
                have HN := Lib.hid HN.out.drew
                have HK := Lib.hid HK.out.drew
                have HM := Lib.hid HM.out.drew
                have Z0 : Hid (wr.drew.heap[w.heap.size]? = some (.cells #[.string a2, .string b2] 38 (0, 0))) := Z0.out
                have HB := Lib.hid HB.out.drew
                clear hd hcell hs
                cases hq : sameB ys a2 with
                | true =>
                  rw [hq] at CS
                  clear hq HST
                  go_wp2_with fail
                  go_region_held3 (fun W => W.cell? (bd.add j) = some (.string ys) ∧ W.cell? ⟨w.heap.size, 0, none⟩ = some (.string a2)) (exact HC.out) (first
                    | (go_at_call 21; refine (CS.out _).mono ?_; rintro e w2 ⟨rfl, hb⟩; have HC : Hid (w2.cell? (bd.add j) = some (.string ys) ∧ w2.cell? ⟨w.heap.size, 0, none⟩ = some (.string a2)) := ⟨cell_kept hb HC.out.1, cell_kept hb HC.out.2⟩; have HB := Lib.hid (below_then HB.out hb); clear hb))
                  go_wp2_with fail
                  refine (CX.out _ HB.out).mono ?_
                  rintro e w9 ⟨rfl, hb9⟩
                  go_wp2_with fail
                  go_ret
                  exact ⟨rfl, below_then HB.out hb9⟩
                | false =>
                  have HS2 := Lib.hid (HST.out hq)
                  rw [hq] at CS
                  clear hq HST
                  go_wp2_with fail
                  go_region_held3 (fun W => W.cell? (bd.add j) = some (.string ys) ∧ W.cell? ⟨w.heap.size, 0, none⟩ = some (.string a2)) (exact HC.out) (first
                    | (go_at_call 21; refine (CS.out _).mono ?_; rintro e w2 ⟨rfl, hb⟩; have HC : Hid (w2.cell? (bd.add j) = some (.string ys) ∧ w2.cell? ⟨w.heap.size, 0, none⟩ = some (.string a2)) := ⟨cell_kept hb HC.out.1, cell_kept hb HC.out.2⟩; have HN := Lib.hid (HN.out.below hb); have HK := Lib.hid (HK.out.below hb); have HM := Lib.hid (HM.out.below hb); have Z0 := Lib.hid (zero_still hb Z0.out); have HB := Lib.hid (below_then HB.out hb); clear hb))
                  go_wp2_with fail
                  go_roundw
                  case rel => exact ⟨j + 1, by omega, by go_num, HS2.out, HN.out, HK.out, HM.out, Z0.out, HB.out⟩
                  case measure => simp [intOf]; omega
              · have hTj : z0.take j = z0 := List.take_of_length_le (by omega)
                rw [hTj] at hs
                have K5 := Lib.hid (fun W A B c d h h' hW => K4.out hs.out W A B c d h h' hW)
                have hj1 : ¬ (j : Int) < (z0.length : Int) := by omega
                clear hs
                go_wp2_with fail
                refine (K5.out _ _ _ _ _ HK.out HM.out HB.out).mono ?_
                rintro e w8 ⟨rfl, hb⟩
                have HB := Lib.hid (below_then HB.out hb)
                clear hb
                go_wp2_with fail
                refine (CX.out _ HB.out).mono ?_
                rintro e w9 ⟨rfl, hb9⟩
                go_wp2_with fail
                go_ret
                exact ⟨rfl, below_then HB.out hb9⟩

set_option maxRecDepth 100000 in
theorem lifted (os : Os) (started : os.Started) (H : Type) (enc : TypeId × Value → H) :
    ReturnsInHanded {} Try.checked os 5 .any (Rows.varyOwnSpec.pre6 enc Try.prog Try.f5 Rows.varyOwnRow.domain false) (Rows.varyOwnSpec.post enc Try.prog Try.f5 false true false false) := by
  refine returnsInHanded_of_change (C := Try.checked) own started (by kernel_rfl) Try.func5
    (ChangeSpec.witness6 (enc := enc) (C := Try.checked) false ⟨#[], #[.slice none 0 0, .slice none 0 0, .agg #[.string ByteArray.empty, .string ByteArray.empty]], []⟩ 8 (by kernel_rfl) (by kernel_rfl) (by kernel_rfl) (by kernel_rfl)) ?_
  intro W base args ds gs before hval0 hW hcnd _
  have hval : ∀ (j : Nat) t v, Try.f5.params[j]? = some t → args[j]? = some v → Value.okWide Try.prog W .any base t v := hval0
  have hW' := hW
  obtain ⟨p, q, hA0, hV, rfl, hfz, hnd⟩ := hW
  have hA : DataW.TrodAll enc Try.prog W 0 (fun _ => true) true Try.f5.params.toList args.toList ds p := hA0
  rw [Try.params5] at hA hval
  obtain ⟨v0, vs0, d0, ds0, p0, q0, hargs, rfl, rfl, h0, r0⟩ := trodAll_cons hA
  obtain ⟨v1, vs1, d1, ds1, p1, q1, rfl, rfl, rfl, h1, r1⟩ := trodAll_cons r0
  obtain ⟨v2, vs2, d2, ds2, p2, q2, rfl, rfl, rfl, h2, r2⟩ := trodAll_cons r1
  obtain ⟨rfl, rfl, rfl⟩ := trodAll_nil r2
  obtain rfl : args = #[v0, v1, v2] := by cases args; simp_all
  obtain ⟨rfl, rfl⟩ := trodVars_none hV
  obtain ⟨a0, len0, cap0, rfl⟩ := okWide_slice Try.underlying25 (hval 0 25 v0 rfl rfl)
  have k0 := h0
  have lt0 : ∀ x ∈ p0, x.block < W.heap.size := by obtain ⟨m, hm⟩ := k0; exact DataW.trod_lt m _ _ _ hm
  obtain ⟨z0, w0⟩ : ∃ L, SlS W a0 len0 cap0 L ∧ ∀ x ∈ L, x.length ≤ maxLen := by
    obtain ⟨fuel, hf⟩ := h0
    rcases open_strings Try.underlying25 Try.underlying9 (by kernel_rfl) hf with ⟨hcs, _⟩ | ⟨x, l, c, ss, hcs, _, hl, hm, hz, _, hcell, hwz⟩
    · simp [Value.cells] at hcs
      obtain ⟨rfl, rfl, rfl⟩ := hcs
      exact SlS.of_row (z := []) (.inl ⟨rfl, rfl, rfl, rfl⟩)
    · simp [Value.cells] at hcs
      obtain ⟨rfl, rfl, rfl⟩ := hcs
      exact SlS.of_row (z := ss) (.inr ⟨_, rfl, hl, hm, by simpa using hz, hcell, hwz⟩)
  obtain ⟨a1, len1, cap1, rfl⟩ := okWide_slice Try.underlying22 (hval 1 22 v1 rfl rfl)
  have k1 := h1
  have lt1 : ∀ x ∈ p1, x.block < W.heap.size := by obtain ⟨m, hm⟩ := k1; exact DataW.trod_lt m _ _ _ hm
  obtain ⟨z1, w1⟩ := SlF.of_trod Try.underlying22 Try.underlying38 (by kernel_rfl) rfl rfl (by kernel_rfl) (by kernel_rfl) Try.underlying9 Try.underlying9 h1
  obtain ⟨f0, f1, y0, y1, m, rfl, rfl, rfl, hy0, hy1⟩ := Go.Joins.open_agg2 Try.underlying38 (by kernel_rfl) (by kernel_rfl) (hval 2 38 v2 rfl rfl) h2
  obtain ⟨a2, e0, rfl, wa⟩ := DataW.trod_string Try.underlying9 hy0
  obtain ⟨b2, e1, rfl, wb⟩ := DataW.trod_string Try.underlying9 hy1
  simp at e0 e1
  subst e0 e1
  have w2 := And.intro wa wb
  clear hA0 hval0
  refine (walk a0 len0 cap0 z0 a1 len1 cap1 z1 a2 b2 W w0 w1 w2).mono fun e W' ⟨he, bel⟩ => ?_
  subst he
  exact ⟨_, rfl, _, _, _, [], _, [], hW', trodAll_mk1 (shut_bool Try.underlying4 _), (trodAll_cons_mk (Below.trod laidOut (by kernel_rfl) (of_decide_eq_true (by kernel_rfl)) k0 bel lt0) (trodAll_cons_mk (Below.trod laidOut (by kernel_rfl) (of_decide_eq_true (by kernel_rfl)) k1 bel lt1) (trodAll_cons_mk (Go.Joins.shut_agg2 Try.underlying38 (by kernel_rfl) (by kernel_rfl) (Go.Joins.field_of_Trod (shut_string Try.underlying9 w2.1) rfl) (Go.Joins.field_of_Trod (shut_string Try.underlying9 w2.2) rfl)) trodAll_mk0))), rfl, bel.frame _, fun h => by cases h⟩

theorem over : Rows.varyOwnRow.holds Try.pinned (OpenSpec.ofChange Rows.varyOwnSpec) :=
  OpenClaim.holds_of_wide 5 Try.f5 rfl rfl rfl rfl rfl rfl rfl ⟨rfl, rfl, rfl, rfl, rfl⟩ rfl rfl rfl rfl rfl (by kernel_rfl) Try.func5 (by kernel_rfl)
    (of_decide_eq_true (by kernel_rfl)) (by unfold Func.isWrapper; first | (rw [if_pos (by decide +kernel)]; kernel_rfl) | (rw [if_neg (by decide +kernel)]; exact ⟨rfl, rfl⟩))
    (fun os started H enc _ => lifted os started H enc)

theorem proved : Rows.VaryOwnSaid := over
#print axioms proved
end Go.Proofs.Ytmpgenflohdghaa.varyOwn
