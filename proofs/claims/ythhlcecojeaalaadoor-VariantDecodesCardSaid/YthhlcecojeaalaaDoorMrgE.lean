/-
  Texts that the laws of this seat lean on, one behind the other.
-/
import Derived.Test.YthhlcecojeaalaaDoorMrgC
import Derived.WalkSmall
import Derived.Lib.Hide
import Derived.Lib.SliceRun
import Derived.Laws.OwnMore
import Derived.DataElems
import Derived.Laws.BytesArg
set_option linter.unusedSimpArgs false
set_option linter.unusedVariables false
/-
  A block of bytes of the call's own, known cell by cell.
-/
section
namespace Go.Proofs.YthhlcecojeaalaaDoor
open Go.RowKit

theorem addr_add (b j : Nat) : (⟨b, 0, none⟩ : Addr).add j = ⟨b, j, none⟩ := by
  unfold Addr.add
  split <;> simp_all

/-- Block B holds the bytes l from its first cell on, and they may be written. -/
structure Row8 (w : World) (B : Nat) (l : List UInt8) : Prop where
  size : B < w.heap.size
  cell : ∀ j, (hj : j < l.length) → w.cell? ⟨B, j, none⟩ = some (.int .u8 (l[j].toNat : Int))
  free : ∀ j, j < l.length → w.frozen? ⟨B, j, none⟩ = false

theorem Row8.below {w w' : World} {B : Nat} {l : List UInt8} (h : Row8 w B l) (hb : Below w.heap.size w w') : Row8 w' B l :=
  ⟨Nat.lt_of_lt_of_le h.size hb.size, fun j hj => (hb.cell h.size).trans (h.cell j hj), fun j hj => (hb.frozen h.size).trans (h.free j hj)⟩

theorem Row8.at {w : World} {B : Nat} {l : List UInt8} (h : Row8 w B l) {j : Nat} {x : UInt8} (hx : l[j]? = some x) : w.cell? ⟨B, j, none⟩ = some (.int .u8 (x.toNat : Int)) ∧ w.frozen? ⟨B, j, none⟩ = false := by
  obtain ⟨a, b⟩ := List.getElem?_eq_some_iff.1 hx
  have := h.cell j a
  rw [b] at this
  exact ⟨this, h.free j a⟩

theorem Row8.set {w : World} {B : Nat} {l : List UInt8} (h : Row8 w B l) (k : Nat) (hk : k < l.length) (x : UInt8) {n : Int} (hn : n = (x.toNat : Int)) : Row8 (w.setCell ⟨B, k, none⟩ (.int .u8 n)) B (l.set k x) := by
  subst hn
  refine ⟨by simpa [World.setCell] using h.size, fun j hj => ?_, fun j hj => by rw [World.frozen?_setCell]; exact h.free j (by simpa using hj)⟩
  have hj' : j < l.length := by simpa using hj
  by_cases e : k = j
  · subst e
    rw [World.cell?_setCell_same (h := h.cell k hk)]
    simp
  · rw [World.cell?_setCell_other (h := by simp only [ne_eq, Addr.mk.injEq]; omega), h.cell j hj', List.getElem_set_ne e]

end Go.Proofs.YthhlcecojeaalaaDoor
end

/-
  Slices of bytes: what a slice reads as, nil or not; what keeps it so; rows of bytes of the call's own.
-/
section
namespace Go.Proofs.YthhlcecojeaalaaDoor
open Go.RowKit

/-- A byte as a value. -/
def byV (x : UInt8) : Value := .int .u8 (x.toNat : Int)
/-- The slice of n bytes at A, of capacity c, reads as l. -/
structure Sl8 (w : World) (A : Option Addr) (n c : Nat) (l : List UInt8) : Prop where
  len : l.length = n
  cap : n ≤ c
  cm : c ≤ maxLen
  nil : A = none → c = 0
  at_ : 0 < n → ∃ ad, A = some ad ∧ ∀ j x, l[j]? = some x → w.cell? (ad.add j) = some (byV x)

theorem add_block (a : Addr) (n : Nat) : (a.add n).block = a.block := by unfold Addr.add; split <;> rfl

section
variable {w w' : World} {A : Option Addr} {n c : Nat} {l : List UInt8}

theorem Sl8.none_ (w : World) : Sl8 w none 0 0 [] := ⟨rfl, Nat.le_refl _, Nat.zero_le _, fun _ => rfl, fun h => absurd h (by omega)⟩
theorem Sl8.none_eq (h : Sl8 w none n c l) : n = 0 ∧ c = 0 ∧ l = [] := by
  have h1 := h.nil rfl
  have h2 := h.cap
  have h3 := h.len
  exact ⟨by omega, h1, List.eq_nil_of_length_eq_zero (by omega)⟩
theorem Sl8.keep (h : Sl8 w A n c l) (hk : ∀ a u, w.cell? a = some u → w'.cell? a = some u) : Sl8 w' A n c l :=
  ⟨h.len, h.cap, h.cm, h.nil, fun hn => by
    obtain ⟨ad, e, hc⟩ := h.at_ hn
    exact ⟨ad, e, fun j x hx => hk _ _ (hc j x hx)⟩⟩
theorem Sl8.below (h : Sl8 w A n c l) (hb : Below w.heap.size w w') : Sl8 w' A n c l := h.keep fun _ _ hu => cell_kept hb hu
theorem Sl8.alloc (h : Sl8 w A n c l) (o : Obj) : Sl8 (w.alloc o) A n c l := h.keep fun _ _ hu => Lib.cell?_alloc_some o hu
theorem Sl8.le (h : Sl8 w A n c l) : l.length ≤ maxLen := by have := h.len; have := h.cap; have := h.cm; omega

theorem Sl8.cells {ad : Addr} (h : Sl8 w (some ad) n c l) : ∀ j x, l[j]? = some x → w.cell? (ad.add j) = some (byV x) := fun j x hx => by
  have : j < l.length := (List.getElem?_eq_some_iff.1 hx).1
  obtain ⟨ad', e, hc⟩ := h.at_ (by have := h.len; omega)
  cases e
  exact hc j x hx
theorem Sl8.news {ad : Addr} (h : Sl8 w (some ad) n c l) : ∀ j u, (l.map byV)[j]? = some u → w.cell? (ad.add j) = some u := fun j u hu => by
  rw [List.getElem?_map, Option.map_eq_some_iff] at hu
  obtain ⟨x, hx, rfl⟩ := hu
  exact h.cells j x hx
theorem byV_ones (l : List UInt8) : ∀ u ∈ l.map byV, u.oneCell' = true := fun u hu => by
  obtain ⟨x, _, rfl⟩ := List.mem_map.1 hu
  rfl

/-- The slices of bytes that lie in block B read as L. -/
structure Sls (w : World) (B : Nat) (L : List (List UInt8)) : Prop where
  size : B < w.heap.size
  part : ∀ j l, L[j]? = some l → ∃ A n c, w.cell? ⟨B, j, none⟩ = some (.slice A n c) ∧ Sl8 w A n c l
theorem Sls.below {B : Nat} {L : List (List UInt8)} (h : Sls w B L) (hb : Below w.heap.size w w') : Sls w' B L :=
  ⟨Nat.lt_of_lt_of_le h.size hb.size, fun j l hj => by
    obtain ⟨A, n, c, h1, h2⟩ := h.part j l hj
    exact ⟨A, n, c, cell_kept hb h1, h2.below hb⟩⟩

/-- What a convertible slice gives. -/
theorem run_str (P : Program) (w : World) (src e : TypeId) (hs : P.underlying src = some (.slice e)) (he : P.underlying e = some (.int .u8)) (h : Sl8 w A n c l) :
    ∀ dst, P.underlying dst = some .string → (convert src dst (.slice A n c)).run P w = .ok (.string (mkS l)) w := by
  intro dst hd
  rcases Nat.eq_zero_or_pos n with h0 | h0
  · have hl : l = [] := List.eq_nil_of_length_eq_zero (by rw [h.len]; exact h0)
    subst hl h0
    rcases A with _ | ad
    · rw [run_convert_bytes_nil w src e hs he 0 c dst hd]; rfl
    · rw [run_convert_bytes_string w src dst e _ 0 c hs he hd, run_bytesToString w ad 0 c [] (by simpa using run_loadCells_list (P := P) w ad [] (by simp))]; rfl
  · obtain ⟨ad, rfl, hc⟩ := h.at_ h0
    have hl : (loadCells ad n).run P w = .ok ((l.map fun x => (x.toNat : Int)).map (Value.int .u8)).toArray w := by
      have := run_loadCells_list (P := P) w ad (l.map byV) (fun j v hj => by
        simp only [List.getElem?_map, Option.map_eq_some_iff] at hj
        obtain ⟨x, hx, rfl⟩ := hj
        exact hc j x hx)
      rw [List.length_map, h.len] at this
      rw [this, List.map_map]; rfl
    rw [run_convert_bytes_string w src dst e _ n c hs he hd, run_bytesToString w ad n c _ hl, foldl_push_bytes]
    congr 2
    simp only [List.map_map]
    have : ((fun n : Int => UInt8.ofNat n.toNat) ∘ fun x : UInt8 => (x.toNat : Int)) = id := by
      funext x; simp
    rw [this, List.map_id]
    unfold mkS
    congr 1
    simp [ByteArray.empty, ByteArray.emptyWithCapacity]
    rfl

/-- The piece from i to j of a slice. -/
theorem Sl8.cut (h : Sl8 w A n c l) {i j : Nat} (hij : i ≤ j) (hj : j ≤ n) : Sl8 w (if c = i then A else A.map (·.add (i * 1))) (j - i) (c - i) ((l.drop i).take (j - i)) := by
  have h1 := h.len
  have h2 := h.cap
  have h3 := h.cm
  refine ⟨by rw [List.length_take, List.length_drop]; omega, by omega, by omega, fun hA => ?_, fun hn => ?_⟩
  · split at hA
    · omega
    · rw [Option.map_eq_none_iff] at hA
      have := h.nil hA
      omega
  · obtain ⟨ad, rfl, hc⟩ := h.at_ (by omega)
    rw [if_neg (by omega)]
    refine ⟨ad.add (i * 1), rfl, fun k x hx => ?_⟩
    rw [Addr.add_add, Nat.mul_one]
    rw [List.getElem?_take] at hx
    split at hx
    · rw [List.getElem?_drop] at hx
      exact hc _ x hx
    · cases hx

theorem Sl8.of_own {base e : Nat} {v : Value} (h : w.ownsRow base e 1 v n (l.map byV)) : ∃ A c, v = .slice A n c ∧ Sl8 w A n c l := by
  have hl : l.length = n := by have := h.1; simpa using this
  rcases h.2 with ⟨rfl, rfl⟩ | ⟨g, cap, cur, rfl, _, hg, hnc, hcm, hcs, ht⟩
  · obtain rfl : l = [] := List.eq_nil_of_length_eq_zero hl
    exact ⟨_, _, rfl, Sl8.none_ w⟩
  · refine ⟨_, _, rfl, hl, hnc, hcm, (fun e => by cases e), fun _ => ⟨_, rfl, fun j x hx => ?_⟩⟩
    refine h.cells (g := g) rfl j (byV x) ?_
    rw [List.getElem?_map, hx]; rfl

/-- What came in. -/
theorem Sl8.of_row {z : List Int} (h : (A = none ∧ n = 0 ∧ c = 0 ∧ z = []) ∨ ∃ x, A = some x ∧ n ≤ c ∧ c ≤ maxLen ∧ z.length = c ∧ (∀ i, i < z.length → w.cell? (x.add i) = some (.int .u8 (z.getD i 0))) ∧ ∀ n ∈ z, (Lit.int .u8 n).wf = true) :
    ∃ l, Sl8 w A n c l := by
  rcases h with ⟨rfl, rfl, rfl, rfl⟩ | ⟨ad, rfl, hl, hm, hz, hc, hw⟩
  · exact ⟨[], Sl8.none_ w⟩
  · refine ⟨(z.take n).map fun i => UInt8.ofNat i.toNat, by rw [List.length_map, List.length_take]; omega, hl, hm, (fun e => by cases e), fun _ => ⟨ad, rfl, fun j x hx => ?_⟩⟩
    rw [List.getElem?_map, List.getElem?_take] at hx
    split at hx
    · simp only [Option.map_eq_some_iff] at hx
      obtain ⟨i, hi, rfl⟩ := hx
      obtain ⟨hj, hji⟩ := List.getElem?_eq_some_iff.1 hi
      have hwi := hw i (by rw [← hji]; exact List.getElem_mem hj)
      have hmin : IntKind.u8.min = 0 := rfl
      have hmax : IntKind.u8.max = 255 := rfl
      simp only [Lit.wf, Bool.and_eq_true, decide_eq_true_eq] at hwi
      have : z.getD j 0 = i := by simp [List.getD, hi]
      rw [hc j hj, this]
      unfold byV
      rw [UInt8.toNat_ofNat', Nat.mod_eq_of_lt (by omega), Int.toNat_of_nonneg (by omega)]
    · cases hx
end

/-- Block B is known whole: the bytes l, of element type t, none frozen. -/
def Blk8 (w : World) (B t : Nat) (l : List UInt8) : Prop := w.heap[B]? = some (.cells (l.map byV).toArray t (0, 0))
section
variable {w w' : World} {B t : Nat} {l : List UInt8}
theorem Blk8.lt (h : Blk8 w B t l) : B < w.heap.size := (Array.getElem?_eq_some_iff.1 h).1
theorem Blk8.at {k : Nat} {x : UInt8} (h : Blk8 w B t l) (hx : l[k]? = some x) : w.cell? ⟨B, k, none⟩ = some (.int .u8 (x.toNat : Int)) := by
  rw [cell_of_row w B k _ t _ h]
  simp [byV, hx]
theorem Blk8.cell {k : Nat} (h : Blk8 w B t l) (hk : k < l.length) : w.cell? ⟨B, k, none⟩ = some (.int .u8 (l[k].toNat : Int)) := h.at (List.getElem?_eq_getElem hk)
theorem Blk8.free (h : Blk8 w B t l) (k : Nat) : w.frozen? ⟨B, k, none⟩ = false := by
  unfold Blk8 at h
  simp [World.frozen?, h]
theorem Blk8.below (h : Blk8 w B t l) (hb : Below w.heap.size w w') : Blk8 w' B t l := (hb.block B h.lt).trans h
theorem Blk8.set (h : Blk8 w B t l) (k : Nat) (x : UInt8) {n : Int} (hn : n = (x.toNat : Int)) : Blk8 (w.setCell ⟨B, k, none⟩ (.int .u8 n)) B t (l.set k x) := by
  subst hn
  unfold Blk8 at h ⊢
  simp [World.setCell, Array.getElem?_modify, h, byV, List.map_set]
theorem Blk8.far (h : Blk8 w B t l) {p : Addr} (hp : B ≠ p.block) (u : Value) : Blk8 (w.setCell p u) B t l := (Below.heap_setCell w p u B hp).trans h
theorem Blk8.sl8 (h : Blk8 w B t l) (hl : l.length ≤ maxLen) : Sl8 w (some ⟨B, 0, none⟩) l.length l.length l :=
  ⟨rfl, Nat.le_refl _, hl, (fun e => by cases e), fun _ => ⟨_, rfl, fun j x hx => by rw [addr_add]; exact h.at hx⟩⟩
end
end Go.Proofs.YthhlcecojeaalaaDoor
end
