/-
  Texts that the laws of this seat lean on, one behind the other.
-/
import Derived.Test.YtmkjjidilfhojaaDoorMrgS
import Derived.Test.YtmkjjidilfhojaaDoorMrgJ
import Derived.WalkMore
import Derived.Test.YtmkjjidilfhojaaDoorMrgT
import Derived.Test.YtmkjjidilfhojaaDoorMrgV
/-
  Contract of Split of package items, for every text of at most 1000000000 bytes.
-/
section
namespace Go.Proofs.YtmkjjidilfhojaaDoor
open Go.RowKit

/-- What Split answers: strings in a slice, and a code. -/
def Strs2 (w : World) (L : List (List UInt8)) (code : Int) (e : Ending) (w' : World) : Prop :=
  ∃ A c, e = .returned (.tuple #[.slice A L.length c, .int .i64 code]) ∧ SlS w' A L.length c L ∧ Head w' A ∧ Below w.heap.size w w'

def cellN (w : World) (Q : Nat) : Nat := match w.cell? ⟨Q, 0, none⟩ with | some v => (intOf v).toNat | none => 0
theorem cellN_at {w : World} {Q k : Nat} (h : w.cell? ⟨Q, 0, none⟩ = some (.int .i64 (k : Int))) : cellN w Q = k := by
  unfold cellN; rw [h]; simp [intOf]

theorem spl_out (l : List UInt8) (L : List (List UInt8)) (h : splitL l = some L) : splO l = L ∧ splE l = 0 := by simp [splO, splE, h]
theorem spl_bad (l : List UInt8) (h : splitL l = none) : splO l = [] ∧ splE l = 5 := by simp [splO, splE, h]


/-- The closure's own two cells, and the list that is gathered. -/
structure Gath (s : ByteArray) (w : World) (B k : Nat) (v : Value) (X : List (List UInt8)) : Prop where
  own : OwnS w (B + 2) 9 v X
  p : w.cell? ⟨B, 0, none⟩ = some (.string s)
  q : w.cell? ⟨B + 1, 0, none⟩ = some (.int .i64 (k : Int))
  fr : w.frozen? ⟨B + 1, 0, none⟩ = false
  sz : B + 2 ≤ w.heap.size
theorem Gath.next {s : ByteArray} {w w2 : World} {B k m : Nat} {v : Value} {X : List (List UInt8)} (h : Gath s w B k v X) (hb : Below w.heap.size w w2) : Gath s (w2.setCell ⟨B + 1, 0, none⟩ (.int .i64 ((m : Int) + 1))) B (m + 1) v X := by
  have hsz := h.sz
  have hs2 := hb.size
  refine ⟨ownsRow_setCell_below (a := ⟨B + 1, 0, none⟩) (h.own.below hb) (by simp) _, ?_, ?_, ?_, by simp [World.setCell]; omega⟩
  · rw [World.cell?_setCell_other (h := by simp)]
    exact (hb.cell (p := ⟨B, 0, none⟩) (by show B < _; omega)).trans h.p
  · rw [World.cell?_setCell_same (h := (hb.cell (p := ⟨B + 1, 0, none⟩) (by show B + 1 < _; omega)).trans h.q)]
    simp
  · rw [World.frozen?_setCell]
    exact (hb.frozen (p := ⟨B + 1, 0, none⟩) (by show B + 1 < _; omega)).trans h.fr
theorem Gath.grown {s : ByteArray} {w w2 : World} {B k : Nat} {v v' : Value} {X X' : List (List UInt8)} (h : Gath s w B k v X) (hb : Below (B + 2) w w2) (hsz2 : B + 2 ≤ w2.heap.size) (ho : OwnS w2 (B + 2) 9 v' X') : Gath s w2 B k v' X' :=
  ⟨ho, (hb.cell (p := ⟨B, 0, none⟩) (by show B < _; omega)).trans h.p, (hb.cell (p := ⟨B + 1, 0, none⟩) (by show B + 1 < _; omega)).trans h.q, (hb.frozen (p := ⟨B + 1, 0, none⟩) (by show B + 1 < _; omega)).trans h.fr, hsz2⟩

set_option maxHeartbeats 1000000 in
set_option maxRecDepth 100000 in
theorem split_any (s : ByteArray) (w : World) (hs : s.size ≤ 1000000000) :
    Calls Tryd.prog 21 #[.string s] w (Strs2 w (splO s.data.toList) (splE s.data.toList)) := by
  go_enter Tryd.func21, Tryd.ntmps21
  go_wp2
  go_step3
  go_wp2_with (go_at_call 33; refine (elements_any s _).mono ?_; rintro e w1 ⟨rfl, rfl⟩)
  go_step3
  go_wp2
  go_loopw [4] (fun v wr => ∃ (k : Nat) (X : List (List UInt8)), k ≤ s.size + 1 ∧ X.length ≤ k ∧ Gath s wr w.heap.size k v X ∧ Hid (splitL s.data.toList = spl 0 [] X (s.data.toList.drop k)) ∧ Below w.heap.size w wr) (fun _ wr => s.size + 1 - cellN wr (w.heap.size + 1))
  case atStart =>
    refine ⟨0, [], by omega, by simp, ⟨OwnS.nil _ _ _, ?_, ?_, ?_, ?_⟩, rfl, ((Below.refl _ _).alloc (Nat.le_refl _) _).alloc (by simp) _⟩
    · go_simp
    · go_simp
    · go_simp
    · simp
  case round =>
    obtain ⟨k, X, hk, hX, hg, hf, hbel⟩ := hrel
    have hsz := hg.sz
    by_cases hlt : k < s.size
    · cases hn : ePos s k with
      | none =>
        have HF := Lib.hid (spl_bad _ (hf.out.trans (spl_none s k X hn)))
        have HC := Lib.hid (next_none s wr hs _ _ k hg.p hg.q hlt hn)
        clear hf hn hg
        go_wp2_with (go_at_call 41; refine (HC.out).mono ?_; rintro e w' ⟨rfl, rfl⟩)
        go_ret2
        rw [HF.out.1, HF.out.2]
        exact ⟨none, 0, rfl, SlS.none_ _, Head.none_ _, hbel⟩
      | some m =>
        have hle := ePos_le s k m hn (by omega)
        have hQ : w.heap.size + 1 < wr.heap.size := by omega
        obtain ⟨T, hT⟩ : ∃ T, T = trimL (piece s k m) := ⟨_, rfl⟩
        have HC := next_some s wr hs w.heap.size (w.heap.size + 1) k m hg.p hg.q hg.fr hQ hlt hn
        rw [← hT] at HC
        have HS := Lib.hid (hf.out.trans (spl_some s k m X hn))
        have HC := Lib.hid HC
        have HK := Lib.hid (cellN_at hg.q)
        have HG := Lib.hid hg
        clear hf hn hg
        by_cases hte : T = []
        · have HA : Hid (splitL s.data.toList = spl 0 [] X (s.data.toList.drop (m + 1))) := by
            have := HS.out
            unfold addE at this
            rwa [← hT, if_pos hte] at this
          have hE : (mkS T).toList.isEmpty = true := by rw [mkS_empty, hte]; rfl
          clear hT HS hte
          go_wp2_with fail
          refine (HC.out).mono ?_
          rintro e w3 ⟨rfl, w2, hb2, hw3⟩
          have hg3 : Gath s w3 w.heap.size (m + 1) u4 X := by rw [← hw3]; exact HG.out.next hb2
          have hb3 : Below w.heap.size w w3 := by rw [← hw3]; exact (hbel.trans (hb2.mono hbel.size)).setCell (p := ⟨w.heap.size + 1, 0, none⟩) (by show _ ≤ w.heap.size + 1; omega) _
          have HG3 := Lib.hid hg3
          clear hw3 hg3
          go_wp2_with fail
          go_roundw
          case rel => exact ⟨m + 1, X, by omega, by omega, HG3.out, HA, hb3⟩
          case measure => rw [HK.out, cellN_at HG3.out.q]; omega
        · have HA : Hid (splitL s.data.toList = spl 0 [] (X ++ [T]) (s.data.toList.drop (m + 1))) := by
            have := HS.out
            unfold addE at this
            rwa [← hT, if_neg hte] at this
          have hE : (mkS T).toList.isEmpty = false := by rw [mkS_empty]; simpa using hte
          clear hT HS hte
          go_wp2_with fail
          refine (HC.out).mono ?_
          rintro e w3 ⟨rfl, w2, hb2, hw3⟩
          have hg3 : Gath s w3 w.heap.size (m + 1) u4 X := by rw [← hw3]; exact HG.out.next hb2
          have hb3 : Below w.heap.size w w3 := by rw [← hw3]; exact (hbel.trans (hb2.mono hbel.size)).setCell (p := ⟨w.heap.size + 1, 0, none⟩) (by show _ ≤ w.heap.size + 1; omega) _
          have HG3 := Lib.hid hg3
          have hs3 := hg3.sz
          clear hw3 hg3
          go_wp2_with (refine wpList_append_sls rfl _ _ _ rfl (w.heap.size + 2) 9 Tryd.underlying28 (by kernel_rfl) _ rfl X (HG3.out.own.alloc _) _ _ _ rfl [T] (SlS.one _ _ _) (by simp; omega) (by simp; omega) w3 ((Below.refl _ _).alloc hs3 _) ?_; intro v' w4 ho4 hb4 hz4)
          go_roundw
          case rel =>
            have hz : w.heap.size + 2 ≤ w4.heap.size := by have := hb4.size; omega
            exact ⟨m + 1, X ++ [T], by omega, by simp; omega, HG3.out.grown hb4 hz ho4.out, HA, hb3.trans (hb4.mono (by omega))⟩
          case measure =>
            have hz : w.heap.size + 2 ≤ w4.heap.size := by have := hb4.size; omega
            rw [HK.out, cellN_at (HG3.out.grown hb4 hz ho4.out).q]; omega
    · have HF := Lib.hid (spl_out _ X (hf.out.trans (spl_end s k X (by omega))))
      obtain ⟨A, c, rfl, hA, hH⟩ := hg.own.sls
      have HC := Lib.hid (next_end s wr _ _ k hg.p hg.q (by omega))
      clear hf hg
      go_wp2_with (go_at_call 41; refine (HC.out).mono ?_; rintro e w' ⟨rfl, rfl⟩)
      go_ret2
      rw [HF.out.1, HF.out.2]
      exact ⟨A, c, rfl, hA, hH, hbel⟩

end Go.Proofs.YtmkjjidilfhojaaDoor
end

/-
  Contracts of Has and Join of package items.
-/
section
namespace Go.Proofs.YtmkjjidilfhojaaDoor
open Go.RowKit

def hasL (L : List (List UInt8)) (name : ByteArray) : Bool := L.any fun x => sameB (mkS x) name

end Go.Proofs.YtmkjjidilfhojaaDoor
end
