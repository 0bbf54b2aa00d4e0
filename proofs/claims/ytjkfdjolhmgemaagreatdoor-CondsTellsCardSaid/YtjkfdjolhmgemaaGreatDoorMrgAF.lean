/-
  Texts that the laws of this seat lean on, one behind the other.
-/
import Derived.Test.YtjkfdjolhmgemaaGreatDoorMrgAB
import Derived.Test.YtjkfdjolhmgemaaGreatDoorMrgAC
import Derived.Test.YtjkfdjolhmgemaaGreatDoorMrgH
import Derived.Deep.RegionHeld3
import Derived.Test.YtjkfdjolhmgemaaGreatDoorMrgX
set_option linter.unusedSimpArgs false
set_option linter.unusedVariables false
/-
  Contracts of the reference's named, NotModified (layer 19).
-/
section
namespace Go.Proofs.YtjkfdjolhmgemaaGreatDoor
open Go.RowKit
set_option linter.unusedSimpArgs false

set_option maxHeartbeats 4000000 in
set_option maxRecDepth 100000 in
theorem r_named (name : ByteArray) (A : Option Addr) (n c : Nat) (L : List ByteArray) (w : World) (h : SlS w A n c (L.map fun x => x.data.toList)) (hn : n ≤ 1000) (hz : name.size ≤ maxLen) (hL : ∀ x ∈ L, x.size ≤ maxLen) :
    Calls Tryz.prog 39 #[.string name, .slice A n c] w fun e w' => e = .returned (.bool (L.any fun x => sameB x name)) ∧ Below w.heap.size w w' := by
  have hlen : L.length = n := by have := h.len; rwa [List.length_map] at this
  subst hlen
  have HD := Lib.hid (show (L.any fun x => sameB x name) = L.any fun x => sameB x name from rfl)
  generalize hR : (L.any fun x => sameB x name) = R at *
  have HR0 := Lib.hid hR
  clear HD hR
  go_enter Tryz.func39, Tryz.ntmps39
  go_wp2_with fail
  go_loopw [5] (fun i wr => ∃ k : Nat, k ≤ L.length ∧ i = .int .i64 (k : Int) ∧ Hid (∀ j (hj : j < L.length), j < k → sameB L[j] name = false) ∧ Below w.heap.size w wr) (fun i _ => L.length - (intOf i).toNat)
  case atStart => exact ⟨0, Nat.zero_le _, rfl, fun j hj h0 => absurd h0 (by omega), Below.refl _ _⟩
  case round =>
    obtain ⟨k, hk, rfl, hf, hbel⟩ := hrel
    by_cases hlt : k < L.length
    · obtain ⟨ad, rfl, hc⟩ := (h.below hbel).at_ (by omega)
      have hcell := hc k L[k].data.toList (by rw [List.getElem?_map, List.getElem?_eq_getElem hlt]; rfl)
      rw [mkS_self] at hcell
      have hle := hL _ (List.getElem_mem hlt)
      have HH : Hid (sameB L[k] name = true → R = true) := fun hq => by rw [← HR0.out]; exact List.any_eq_true.2 ⟨L[k], List.getElem_mem hlt, hq⟩
      have HN : Hid (sameB L[k] name = false → ∀ j (hj : j < L.length), j < k + 1 → sameB L[j] name = false) := fun hq j hj hjk => by
        by_cases e : j = k
        · subst e; exact hq
        · exact hf.out j hj (by omega)
      clear hc
      generalize L[k] = nm at *
      have CS := Lib.hid (r_same nm name wr hle hz)
      have hi0 : (0 : Int) ≤ (k : Int) := by omega
      have hi1 : (k : Int) < (L.length : Int) := by omega
      clear hf
      cases hq : sameB nm name with
      | true =>
        have HR := Lib.hid (HH.out hq)
        rw [hq] at CS
        clear hq HH HN HR0
        go_wp2_with fail
        refine CS.out.mono ?_
        rintro e w1 ⟨rfl, hb1⟩
        go_wp2_with fail
        go_ret
        exact ⟨by rw [HR.out]; rfl, hbel.trans (hb1.mono hbel.size)⟩
      | false =>
        have HR := Lib.hid (HN.out hq)
        rw [hq] at CS
        clear hq HH HN
        go_wp2_with fail
        refine CS.out.mono ?_
        rintro e w1 ⟨rfl, hb1⟩
        go_wp2_with fail
        go_roundw
        case rel => exact ⟨k + 1, by omega, by go_num, HR.out, hbel.trans (hb1.mono hbel.size)⟩
        case measure => simp [intOf]; omega
    · have HR : Hid (R = false) := by
        show _ = _
        rw [← HR0.out, List.any_eq_false]
        intro x hx
        obtain ⟨j, hj, rfl⟩ := List.getElem_of_mem hx
        simp [hf.out j hj (by omega)]
      have hi1 : ¬ (k : Int) < (L.length : Int) := by omega
      clear hf HR0
      go_wp2_with fail
      go_ret
      exact ⟨by rw [HR.out]; rfl, hbel⟩

theorem ntN_le : ∀ n ∈ ntN, n.size ≤ maxLen := by
  intro n hn
  simp only [ntN, List.mem_cons, List.not_mem_nil, or_false] at hn
  rcases hn with rfl | rfl | rfl | rfl | rfl | rfl | rfl <;> decide
theorem nt_snoc (L : List Fd) (k : Nat) (h : k < L.length) : ntF (L.take (k + 1)) = ntF (L.take k) ++ (if ntB L[k].1 then [L[k]] else []) := by
  unfold ntF
  rw [List.take_succ_eq_append_getElem h, List.filter_append]
  cases hb : ntB L[k].1 <;> simp [hb]
theorem nt_len (L : List Fd) (k : Nat) : (ntF (L.take k)).length ≤ k := Nat.le_trans (List.length_filter_le _ _) (by rw [List.length_take]; omega)
theorem set3 {W : World} {g t : Nat} {c0 c1 c2 c3 c4 u : Value} (h : W.heap[g]? = some (.cells #[c0, c1, c2, c3, c4] t (0, 0))) : (W.setCell ⟨g, 3, none⟩ u).heap[g]? = some (.cells #[c0, c1, c2, u, c4] t (0, 0)) := by
  simp [World.setCell, Array.getElem?_modify, h]
theorem setFar {W : World} {g k j : Nat} {u : Value} {o : Obj} (hk : k ≠ g) (h : W.heap[k]? = some o) : (W.setCell ⟨g, j, none⟩ u).heap[k]? = some o := by
  simp [World.setCell, Array.getElem?_modify, h, Ne.symm hk]

/-- What stands in memory while the fields are gathered: the reply, the result, the variable, and what the variable holds. -/
structure NtW (w W : World) (cp : Array Value) (nm : ByteArray) (v : Value) (X : List Fd) : Prop where
  p : W.heap[w.heap.size]? = some (.cells cp 26 (0, 0))
  r : W.heap[w.heap.size + 1]? = some (.cells #[.int .i64 0, .string ⟨#[]⟩, .int .i64 0, .slice none 0 0, .string ⟨#[]⟩] 26 (0, 0))
  o : W.heap[w.heap.size + 1 + 1]? = some (.cells #[.int .i64 304, .string nm, .int .i64 1, v, .string ⟨#[]⟩] 26 (0, 0))
  own : OwnF W (w.heap.size + 3) 43 v X
  b : Below w.heap.size w W
theorem NtW.sz {w W : World} {cp : Array Value} {nm : ByteArray} {v : Value} {X : List Fd} (h : NtW w W cp nm v X) : w.heap.size + 3 ≤ W.heap.size := by
  have := (Array.getElem?_eq_some_iff.1 h.o).1
  omega
theorem NtW.below {w W W' : World} {cp : Array Value} {nm : ByteArray} {v : Value} {X : List Fd} (h : NtW w W cp nm v X) (hb : Below W.heap.size W W') : NtW w W' cp nm v X :=
  ⟨zero_still hb h.p, zero_still hb h.r, zero_still hb h.o, h.own.below hb, below_then h.b hb⟩
theorem NtW.put {w W W' : World} {cp : Array Value} {nm : ByteArray} {v v' : Value} {X X' : List Fd} (h : NtW w W cp nm v X) (hb : Below (w.heap.size + 3) W W') (hz : w.heap.size + 3 ≤ W'.heap.size) (ho : OwnF W' (w.heap.size + 3) 43 v' X') :
    NtW w (W'.setCell ⟨w.heap.size + 1 + 1, 3, none⟩ v') cp nm v' X' := by
  have b0 : Below w.heap.size w W' := h.b.trans (hb.mono (by omega))
  have blk : ∀ k o, k < w.heap.size + 3 → W.heap[k]? = some o → W'.heap[k]? = some o := fun k o hk hg => (hb.block k hk).trans hg
  exact ⟨setFar (by omega) (blk _ _ (by omega) h.p), setFar (by omega) (blk _ _ (by omega) h.r), set3 (blk _ _ (by omega) h.o), ownsRow_setCell_below (a := ⟨w.heap.size + 1 + 1, 3, none⟩) ho (by simp) _, b0.setCell (p := ⟨w.heap.size + 1 + 1, 3, none⟩) (by show _ ≤ w.heap.size + 1 + 1; omega) _⟩

set_option maxHeartbeats 16000000 in
set_option maxRecDepth 100000 in
theorem r_ntm (p : Rply) (B : Option Addr) (d : Nat) (w : World) (h : SlF w B p.f.length d p.f) (hL : FwL p.f) :
    Calls Tryz.prog 14 #[.agg (rpC p B d)] w fun e w' => ∃ A c, e = .returned (.agg (rpC (ntR p.f) A c)) ∧ SlF w' A (ntF p.f).length c (ntF p.f) ∧ FreshA w A ∧ Below w.heap.size w w' := by
  obtain ⟨pc, pr, pv, g, pb⟩ := p
  simp only at h hL
  have HF := Lib.hid (fun W (hW : Below w.heap.size w W) => h.below hW)
  have hbd := fwl_bd hL
  have hgn := hL.n
  have HNL := Lib.hid ntN_le
  have HNB := Lib.hid (fun name => show ntB name = ntN.any fun n => sameB n name from rfl)
  have HSN := Lib.hid (nt_snoc g)
  have HLN := Lib.hid (nt_len g)
  unfold ntR rpC
  simp only
  obtain ⟨nm, hnm⟩ : ∃ x, x = nmodS := ⟨_, rfl⟩
  have HTX := Lib.hid (fun (W : World) => SlS.texts W 9 ntN (by decide))
  have HTL := Lib.hid (show (ntN.map Value.string).toArray = #[.string ⟨#[67, 97, 99, 104, 101, 45, 67, 111, 110, 116, 114, 111, 108]⟩, .string ⟨#[67, 111, 110, 116, 101, 110, 116, 45, 76, 111, 99, 97, 116, 105, 111, 110]⟩, .string ⟨#[68, 97, 116, 101]⟩, .string ⟨#[69, 84, 97, 103]⟩, .string ⟨#[69, 120, 112, 105, 114, 101, 115]⟩, .string ⟨#[86, 97, 114, 121]⟩, .string ⟨#[65, 103, 101]⟩] from rfl)
  have HT7 := Lib.hid (show ntN.length = 7 from rfl)
  generalize ntN = N at *
  have HNM := Lib.hid hnm
  have W0 : Hid (NtW w (((w.alloc (.cells #[.int .i64 pc, .string pr, .int .i64 pv, .slice B g.length d, .string pb] 26)).alloc (.cells #[.int .i64 0, .string ⟨#[]⟩, .int .i64 0, .slice none 0 0, .string ⟨#[]⟩] 26)).alloc (.cells #[.int .i64 304, .string nm, .int .i64 1, .slice none 0 0, .string ⟨#[]⟩] 26)) #[.int .i64 pc, .string pr, .int .i64 pv, .slice B g.length d, .string pb] nm (.slice none 0 0) []) := by
    have e := fun i o hh => alls_at [.cells #[.int .i64 pc, .string pr, .int .i64 pv, .slice B g.length d, .string pb] 26, .cells #[.int .i64 0, .string ⟨#[]⟩, .int .i64 0, .slice none 0 0, .string ⟨#[]⟩] 26, .cells #[.int .i64 304, .string nm, .int .i64 1, .slice none 0 0, .string ⟨#[]⟩] 26] w i o hh
    exact ⟨e 0 _ rfl, e 1 _ rfl, e 2 _ rfl, OwnF.nil _ _ _, alls_below [.cells #[.int .i64 pc, .string pr, .int .i64 pv, .slice B g.length d, .string pb] 26, .cells #[.int .i64 0, .string ⟨#[]⟩, .int .i64 0, .slice none 0 0, .string ⟨#[]⟩] 26, .cells #[.int .i64 304, .string nm, .int .i64 1, .slice none 0 0, .string ⟨#[]⟩] 26] w⟩
  have hE0 : Hid (ntF (g.take 0) = []) := rfl
  rw [← hnm]
  have hnm2 : (⟨#[78, 111, 116, 32, 77, 111, 100, 105, 102, 105, 101, 100]⟩ : ByteArray) = nm := by rw [hnm]; rfl
  clear h hL hnm
  go_enter Tryz.func14, Tryz.ntmps14
  rw [hnm2] at *
  go_wp2_with fail
  go_loopw [4] (fun i wr => ∃ (k : Nat) (v : Value), k ≤ g.length ∧ i = .int .i64 (k : Int) ∧ Hid (NtW w wr #[.int .i64 pc, .string pr, .int .i64 pv, .slice B g.length d, .string pb] nm v (ntF (g.take k)))) (fun i _ => g.length - (intOf i).toNat)
  case atStart => exact ⟨0, .slice none 0 0, Nat.zero_le _, rfl, W0.out⟩
  case round =>
    clear W0
    obtain ⟨k, v, hk, rfl, HW⟩ := hrel
    obtain ⟨q0, q1, q2, q3, q4⟩ := cel5r HW.out.p
    by_cases hlt : k < g.length
    · have hzz := HW.out.sz
      have hown := HF.out w (Below.refl _ _)
      obtain ⟨ad, rfl, hcw⟩ := hown.at_ (by omega)
      obtain ⟨hw0, hw1⟩ := hcw k g[k] (List.getElem?_eq_getElem hlt)
      have hadb : (ad.add (k * 2)).block < w.heap.size := World.block_lt_of_cell? w _ hw0
      have HC0 := Lib.hid (fun W (hW : Below w.heap.size w W) => cell_kept hW hw0)
      have HC1 := Lib.hid (fun W (hW : Below w.heap.size w W) => fd_snd (cell_kept hW hw1))
      have hbk := hbd _ (List.getElem_mem hlt)
      have HS := Lib.hid (HSN.out k hlt)
      have hXl := HLN.out k
      clear hcw hw0 hw1 hown
      generalize g[k] = x at *
      obtain ⟨xa, xb⟩ := x
      have hbx : xa.size ≤ maxLen := hbk.one
      have hby : xb.size ≤ maxLen := hbk.two
      have CN := Lib.hid (r_named xa (some ⟨wr.heap.size, 0, none⟩) N.length N.length N (wr.alloc (.cells (N.map Value.string).toArray 9)) (HTX.out wr) (by have := HT7.out; omega) hbx HNL.out)
      rw [HTL.out, HT7.out, ← HNB.out xa] at CN
      have c0 := HC0.out wr HW.out.b
      have c1 := HC1.out wr HW.out.b
      have hi0 : (0 : Int) ≤ (k : Int) := by omega
      have hi1 : (k : Int) < (g.length : Int) := by omega
      cases hq : ntB xa with
      | false =>
        have HX : Hid (ntF (g.take (k + 1)) = ntF (g.take k)) := by show _ = _; rw [HS.out, hq]; simp
        rw [hq] at CN
        clear hq HS
        go_wp2_with fail
        refine CN.out.mono ?_
        rintro e w1 ⟨rfl, hb⟩
        have HW1 := Lib.hid (HW.out.below (zero_then hb))
        clear hb q0 q1 q2 q3 q4 c0 c1
        go_wp2_with fail
        go_roundw
        case rel => exact ⟨k + 1, v, by omega, by go_num, by show NtW _ _ _ _ _ _; rw [HX.out]; exact HW1.out⟩
        case measure => simp [intOf]; omega
      | true =>
        have HX : Hid (ntF (g.take (k + 1)) = ntF (g.take k) ++ [(xa, xb)]) := by show _ = _; rw [HS.out, hq]; simp
        rw [hq] at CN
        clear hq HS
        generalize ntF (g.take k) = X at *
        go_wp2_with fail
        refine CN.out.mono ?_
        rintro e w1 ⟨rfl, hb⟩
        have HW := Lib.hid (HW.out.below (zero_then hb))
        clear hb q0 q1 q2 q3 q4 c0 c1 CN
        go_wp2_with fail
        obtain ⟨u1, hu1⟩ : ∃ W, w1.drew = W := ⟨_, rfl⟩
        have HW : Hid (NtW w u1 #[.int .i64 pc, .string pr, .int .i64 pv, .slice (some ad) g.length d, .string pb] nm v X) := (by show NtW _ _ _ _ _ _; rw [← hu1]; exact HW.out.below (Below.refl _ _).drew)
        refine wp_region_held_drew (S := fun W => W.cell? ⟨w.heap.size, 3, none⟩ = some (.slice (some ad) g.length d) ∧ W.cell? (ad.add (k * 2)) = some (.string xa) ∧ W.cell? { block := (ad.add (k * 2)).block, off := (ad.add (k * 2)).off + 1 } = some (.string xb)) (by kernel_rfl) (by rw [hu1]; exact ⟨(cel5r HW.out.p).2.2.2.1, HC0.out _ HW.out.b, HC1.out _ HW.out.b⟩) (fun hHeld => ?_)
        rw [hu1] at hHeld ⊢
        clear hu1
        refine takeY (i := 0) (v := ?_) rfl rfl (by kernel_rfl) (by kernel_rfl) (by kernel_rfl) (by rfl) (fun _ _ _ h => h) ?y1 (by assumption) ?r1
        case y1 => (intro w hSw; (try dsimp only at hSw); go_simp; try with_reducible rfl)
        try simp only [Act.put, List.setIfInBounds_toArray, List.set_cons_zero, List.set_cons_succ]
        refine takeY (i := 2) (v := ?_) rfl rfl (by kernel_rfl) (by kernel_rfl) (by kernel_rfl) (by rfl) (fun _ _ _ h => h) ?y2 (by assumption) ?r2
        case y2 => (intro w hSw; (try dsimp only at hSw); go_simp; try with_reducible rfl)
        try simp only [Act.put, List.setIfInBounds_toArray, List.set_cons_zero, List.set_cons_succ]
        refine takeY (i := 3) (v := ?_) rfl rfl (by kernel_rfl) (by kernel_rfl) (by kernel_rfl) (by rfl) (fun _ _ _ h => h) ?y3 (by assumption) ?r3
        case y3 => (intro w hSw; (try dsimp only at hSw); go_simp; try with_reducible rfl)
        try simp only [Act.put, List.setIfInBounds_toArray, List.set_cons_zero, List.set_cons_succ]
        refine takeY (i := 4) (v := ?_) rfl rfl (by kernel_rfl) (by kernel_rfl) (by kernel_rfl) (by rfl) (fun _ _ _ h => h) ?y4 (by assumption) ?r4
        case y4 => (intro w hSw; (try dsimp only at hSw); go_simp; try with_reducible rfl)
        try simp only [Act.put, List.setIfInBounds_toArray, List.set_cons_zero, List.set_cons_succ]
        refine takeY (i := 5) (v := ?_) rfl rfl (by kernel_rfl) (by kernel_rfl) (by kernel_rfl) (by rfl) (fun _ _ _ h => h) ?y5 (by assumption) ?r5
        case y5 => (intro w hSw; (try dsimp only at hSw); go_simp; try with_reducible rfl)
        try simp only [Act.put, List.setIfInBounds_toArray, List.set_cons_zero, List.set_cons_succ]
        refine takeY (i := 6) (v := ?_) rfl rfl (by kernel_rfl) (by kernel_rfl) (by kernel_rfl) (by rfl) (fun _ _ _ h => h) ?y6 (by assumption) ?r6
        case y6 => (intro w hSw; (try dsimp only at hSw); go_simp; try with_reducible rfl)
        try simp only [Act.put, List.setIfInBounds_toArray, List.set_cons_zero, List.set_cons_succ]
        refine wpAnyH_ready (rs := [1, 7]) (by kernel_rfl) (by simp) (AllReadyH.cons rfl (fun K hK => ?_) (AllReadyH.cons rfl (fun K hK => ?_) AllReadyH.nil))
        · have o3 := (cel5r HW.out.o).2.2.2.1
          go_simp
          clear o3
          refine hK.out _ _ (⟨(cel5r HW.out.p).2.2.2.1, HC0.out _ HW.out.b, HC1.out _ HW.out.b⟩) (fun hHeld => ?_)
          clear hK
          try simp only [Act.put, List.setIfInBounds_toArray, List.set_cons_zero, List.set_cons_succ]
          refine wpAnyH_ready (rs := [7]) (by kernel_rfl) (by simp) (AllReadyH.cons rfl (fun K hK => ?_) AllReadyH.nil)
          go_simp
          obtain ⟨u3, hu3⟩ : ∃ W, u1.alloc (.cells #[.string xa, .string xb] 43) = W := ⟨_, rfl⟩
          obtain ⟨gs, hgs⟩ : ∃ g, u1.heap.size = g := ⟨_, rfl⟩
          rw [hu3, hgs]
          have SX : Hid (SlF u3 (some ⟨gs, 0, none⟩) 1 1 [(xa, xb)]) := (by show SlF _ _ _ _ _; rw [← hu3, ← hgs]; exact SlF.one u1 43 (xa, xb) ⟨hbx, hby⟩)
          replace HW : Hid (NtW w u3 #[.int .i64 pc, .string pr, .int .i64 pv, .slice (some ad) g.length d, .string pb] nm v X) := (by show NtW _ _ _ _ _ _; rw [← hu3]; exact HW.out.below ((Below.refl _ _).alloc (Nat.le_refl _) _))
          clear hu3 hgs
          refine hK.out _ _ (⟨(cel5r HW.out.p).2.2.2.1, HC0.out _ HW.out.b, HC1.out _ HW.out.b⟩) (fun hHeld => ?_)
          clear hK
          try simp only [Act.put, List.setIfInBounds_toArray, List.set_cons_zero, List.set_cons_succ]
          refine wpAnyH_ready (rs := [8]) (by kernel_rfl) (by simp) (AllReadyH.cons rfl (fun K hK => ?_) AllReadyH.nil)
          refine step_append_slf rfl _ _ 22 rfl (w.heap.size + 3) 43 Tryz.underlying22 (by kernel_rfl) v rfl X HW.out.own ⟨gs, 0, none⟩ 1 1 rfl [(xa, xb)] SX.out (by omega) (by simp; omega) HW.out.sz u3 (Below.refl _ _) ?_
          intro v2 u4 ho2 hb2 hz2
          obtain ⟨A2, n2, k2, rfl⟩ : ∃ A n c, v2 = .slice A n c := (by obtain ⟨A, c, e⟩ := ho2.out.form; exact ⟨A, _, c, e⟩)
          have hs2 := HW.out.sz
          have ou : u4.heap[w.heap.size + 1 + 1]? = some (.cells #[.int .i64 304, .string nm, .int .i64 1, v, .string ⟨#[]⟩] 26 (0, 0)) := (hb2.block _ (by omega)).trans HW.out.o
          have HP := Lib.hid (HW.out.put hb2 (by omega) ho2.out)
          have HBV := Lib.hid (HW.out.b.trans (hb2.mono (by omega)))
          have rp : u4.heap[w.heap.size]? = some (.cells #[.int .i64 pc, .string pr, .int .i64 pv, .slice (some ad) g.length d, .string pb] 26 (0, 0)) := (hb2.block _ (by omega)).trans HW.out.p
          refine hK.out _ _ (⟨(cel5r rp).2.2.2.1, HC0.out _ HBV.out, HC1.out _ HBV.out⟩) (fun hHeld => ?_)
          clear hK
          try simp only [Act.put, List.setIfInBounds_toArray, List.set_cons_zero, List.set_cons_succ]
          refine takeY (i := 9) (v := ?_) rfl rfl (by kernel_rfl) (by kernel_rfl) (by kernel_rfl) (by rfl) (fun _ _ _ h => h) ?y7 (by assumption) ?r7
          case y7 => (intro w hSw; (try dsimp only at hSw); go_simp; try with_reducible rfl)
          try simp only [Act.put, List.setIfInBounds_toArray, List.set_cons_zero, List.set_cons_succ]
          refine wpAnyH_ready (rs := [10]) (by kernel_rfl) (by simp) (AllReadyH.cons rfl (fun K hK => ?_) AllReadyH.nil)
          obtain ⟨p3, pf⟩ := row_at ou 3 _ rfl
          go_simp
          clear p3 pf
          refine hK.out _ _ (⟨(cel5r HP.out.p).2.2.2.1, HC0.out _ HP.out.b, HC1.out _ HP.out.b⟩) (fun hHeld => ?_)
          clear hK
          try simp only [Act.put, List.setIfInBounds_toArray, List.set_cons_zero, List.set_cons_succ]
          refine wpAnyH_done (by kernel_rfl) ?_ _
          go_wp2_with fail
          go_roundw
          case rel => exact ⟨k + 1, .slice A2 n2 k2, by omega, by go_num, by show NtW _ _ _ _ _ _; rw [HX.out]; exact HP.out⟩
          case measure => simp [intOf]; omega
        · go_simp
          obtain ⟨u6, hu6⟩ : ∃ W, u1.alloc (.cells #[.string xa, .string xb] 43) = W := ⟨_, rfl⟩
          obtain ⟨gs, hgs⟩ : ∃ g, u1.heap.size = g := ⟨_, rfl⟩
          rw [hu6, hgs]
          have SX : Hid (SlF u6 (some ⟨gs, 0, none⟩) 1 1 [(xa, xb)]) := (by show SlF _ _ _ _ _; rw [← hu6, ← hgs]; exact SlF.one u1 43 (xa, xb) ⟨hbx, hby⟩)
          replace HW : Hid (NtW w u6 #[.int .i64 pc, .string pr, .int .i64 pv, .slice (some ad) g.length d, .string pb] nm v X) := (by show NtW _ _ _ _ _ _; rw [← hu6]; exact HW.out.below ((Below.refl _ _).alloc (Nat.le_refl _) _))
          clear hu6 hgs
          refine hK.out _ _ (⟨(cel5r HW.out.p).2.2.2.1, HC0.out _ HW.out.b, HC1.out _ HW.out.b⟩) (fun hHeld => ?_)
          clear hK
          try simp only [Act.put, List.setIfInBounds_toArray, List.set_cons_zero, List.set_cons_succ]
          refine wpAnyH_ready (rs := [1]) (by kernel_rfl) (by simp) (AllReadyH.cons rfl (fun K hK => ?_) AllReadyH.nil)
          have o3 := (cel5r HW.out.o).2.2.2.1
          go_simp
          clear o3
          refine hK.out _ _ (⟨(cel5r HW.out.p).2.2.2.1, HC0.out _ HW.out.b, HC1.out _ HW.out.b⟩) (fun hHeld => ?_)
          clear hK
          try simp only [Act.put, List.setIfInBounds_toArray, List.set_cons_zero, List.set_cons_succ]
          refine wpAnyH_ready (rs := [8]) (by kernel_rfl) (by simp) (AllReadyH.cons rfl (fun K hK => ?_) AllReadyH.nil)
          refine step_append_slf rfl _ _ 22 rfl (w.heap.size + 3) 43 Tryz.underlying22 (by kernel_rfl) v rfl X HW.out.own ⟨gs, 0, none⟩ 1 1 rfl [(xa, xb)] SX.out (by omega) (by simp; omega) HW.out.sz u6 (Below.refl _ _) ?_
          intro v2 u8 ho2 hb2 hz2
          obtain ⟨A2, n2, k2, rfl⟩ : ∃ A n c, v2 = .slice A n c := (by obtain ⟨A, c, e⟩ := ho2.out.form; exact ⟨A, _, c, e⟩)
          have hs2 := HW.out.sz
          have ou : u8.heap[w.heap.size + 1 + 1]? = some (.cells #[.int .i64 304, .string nm, .int .i64 1, v, .string ⟨#[]⟩] 26 (0, 0)) := (hb2.block _ (by omega)).trans HW.out.o
          have HP := Lib.hid (HW.out.put hb2 (by omega) ho2.out)
          have HBV := Lib.hid (HW.out.b.trans (hb2.mono (by omega)))
          have rp : u8.heap[w.heap.size]? = some (.cells #[.int .i64 pc, .string pr, .int .i64 pv, .slice (some ad) g.length d, .string pb] 26 (0, 0)) := (hb2.block _ (by omega)).trans HW.out.p
          refine hK.out _ _ (⟨(cel5r rp).2.2.2.1, HC0.out _ HBV.out, HC1.out _ HBV.out⟩) (fun hHeld => ?_)
          clear hK
          try simp only [Act.put, List.setIfInBounds_toArray, List.set_cons_zero, List.set_cons_succ]
          refine takeY (i := 9) (v := ?_) rfl rfl (by kernel_rfl) (by kernel_rfl) (by kernel_rfl) (by rfl) (fun _ _ _ h => h) ?y8 (by assumption) ?r8
          case y8 => (intro w hSw; (try dsimp only at hSw); go_simp; try with_reducible rfl)
          try simp only [Act.put, List.setIfInBounds_toArray, List.set_cons_zero, List.set_cons_succ]
          refine wpAnyH_ready (rs := [10]) (by kernel_rfl) (by simp) (AllReadyH.cons rfl (fun K hK => ?_) AllReadyH.nil)
          obtain ⟨p3, pf⟩ := row_at ou 3 _ rfl
          go_simp
          clear p3 pf
          refine hK.out _ _ (⟨(cel5r HP.out.p).2.2.2.1, HC0.out _ HP.out.b, HC1.out _ HP.out.b⟩) (fun hHeld => ?_)
          clear hK
          try simp only [Act.put, List.setIfInBounds_toArray, List.set_cons_zero, List.set_cons_succ]
          refine wpAnyH_done (by kernel_rfl) ?_ _
          go_wp2_with fail
          go_roundw
          case rel => exact ⟨k + 1, .slice A2 n2 k2, by omega, by go_num, by show NtW _ _ _ _ _ _; rw [HX.out]; exact HP.out⟩
          case measure => simp [intOf]; omega
    · have hi1 : ¬ (k : Int) < (g.length : Int) := by omega
      have hX : Hid (ntF (g.take k) = ntF g) := by show _ = _; rw [List.take_of_length_le (by omega)]
      have HW : Hid (NtW w wr #[.int .i64 pc, .string pr, .int .i64 pv, .slice B g.length d, .string pb] nm v (ntF g)) := by show NtW _ _ _ _ _ _; rw [← hX.out]; exact HW.out
      obtain ⟨A, c, rfl, hF⟩ := HW.out.own.slf (fun x hx => ⟨(hbd x (List.mem_filter.1 hx).1).one, (hbd x (List.mem_filter.1 hx).1).two⟩)
      have hfr := HW.out.own.freshL
      have HFF := Lib.hid hF
      have HFR := Lib.hid hfr
      have hzz := HW.out.sz
      clear hF hfr hX
      obtain ⟨o0, o1, o2, o3, o4⟩ := cel5r HW.out.o
      go_wp2_with (refine wpList_store_row rfl _ _ _ rfl (w.heap.size + 1) #[.int .i64 304, .string nm, .int .i64 1, .slice A (ntF g).length c, .string ⟨#[]⟩] rfl rfl 26 _ HW.out.r (by kernel_rfl) rfl (by simp [Value.oneCell']) ?_)
      refine bodyPost_ret (results_cell_row rfl _ _ (w.heap.size + 1) 26 #[.int .i64 304, .string nm, .int .i64 1, .slice A (ntF g).length c, .string ⟨#[]⟩] (0, 0) _ rfl (setRow_heap _ _ _ _ _ _ HW.out.r) Tryz.underlying26 rfl (by kernel_rfl)) rfl ?_
      have hne : ∀ ad, A = some ad → ad.block ≠ w.heap.size + 1 := fun ad e h => by have := HFR.out ad e; omega
      refine ⟨A, c, rfl, ?_, fun ad e => by have := HFR.out ad e; omega, below_setRow HW.out.b (by omega) _⟩
      exact HFF.out.setRow hne _

end Go.Proofs.YtjkfdjolhmgemaaGreatDoor
end
