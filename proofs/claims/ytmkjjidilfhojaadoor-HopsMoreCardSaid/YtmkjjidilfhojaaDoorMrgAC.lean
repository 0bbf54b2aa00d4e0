/-
  Texts that the laws of this seat lean on, one behind the other.
-/
import Derived.Test.YtmkjjidilfhojaaDoorMrgAB
import Derived.Test.YtmkjjidilfhojaaDoorMrgB
/-
  Plain facts of layer 16: what is stripped stays, and what a field that is added does.
-/
section
namespace Go.Proofs.YtmkjjidilfhojaaDoor
open Go.RowKit

def keepB (NL : List (List UInt8)) (x : Fd) : Bool := !nmd NL x && !hopB x.1
theorem stp_keep (L : List Fd) : stpL L = L.filter (keepB (nomL L)) := by
  unfold stpL fdDrop
  rw [List.filter_filter]
  congr 1
  funext x
  unfold keepB
  rw [Bool.and_comm]
theorem hop_cn {a : ByteArray} (h : sameB a cnS = true) : hopB a = true := by
  unfold hopB
  refine List.any_eq_true.2 ⟨cnS, List.mem_cons_self .., ?_⟩
  rw [same_symm]
  exact h
theorem nom_none {L : List Fd} (h : ∀ x ∈ L, hopB x.1 = false) : nomL L = [] := by
  unfold nomL fdAll
  have e : (L.filter fun x => sameB x.1 cnS) = [] := by
    rw [List.filter_eq_nil_iff]
    intro x hx hc
    have := hop_cn hc
    rw [h x hx] at this
    cases this
  rw [e]
  rfl
theorem stp_again (L : List Fd) : stpL (stpL L) = stpL L := by
  have h : ∀ x ∈ stpL L, hopB x.1 = false := fun x hx => by
    unfold stpL at hx
    have := (List.mem_filter.1 hx).2
    simpa using this
  rw [stp_keep (stpL L), nom_none h]
  rw [List.filter_eq_self]
  intro x hx
  unfold keepB nmd
  rw [h x hx]
  rfl
theorem nom_more {f : Fd} (L : List Fd) (h : sameB f.1 cnS = false) : nomL (f :: L) = nomL L := by
  unfold nomL fdAll
  rw [List.filter_cons, h]
  rfl
theorem stp_more {f : Fd} (L : List Fd) (h : sameB f.1 cnS = false) : stpL (f :: L) = if keepB (nomL L) f = true then f :: stpL L else stpL L := by
  rw [stp_keep, nom_more L h, List.filter_cons, stp_keep]
/-- Does a field go, asked as the laws ask? -/
theorem goes_eq (NL : List (List UInt8)) (x : Fd) : (hopB x.1 || NL.any fun n => sameB (mkS n) x.1) = !keepB NL x := by
  unfold keepB nmd
  have e : (NL.any fun n => sameB (mkS n) x.1) = NL.any fun n => sameB x.1 (mkS n) := by
    congr 1
    funext n
    exact same_symm _ _
  rw [e]
  cases hopB x.1 <;> cases (NL.any fun n => sameB x.1 (mkS n)) <;> rfl
theorem keep_at {α : Type} (p : α → Bool) : ∀ (L : List α) (i : Nat) (h : i < L.length), p L[i] = true → (L.filter p)[((L.take i).filter p).length]? = some L[i]
  | [], i, h, _ => absurd h (by simp)
  | x :: L, 0, _, hp => by
    simp only [List.getElem_cons_zero] at hp
    simp [List.filter_cons, hp]
  | x :: L, i + 1, h, hp => by
    simp only [List.getElem_cons_succ] at hp ⊢
    rw [List.take_succ_cons, List.filter_cons, List.filter_cons]
    have ih := keep_at p L i (by simpa using h) hp
    cases p x with
    | true => simpa using ih
    | false => simpa using ih
theorem hKeep_len {α : Type} (p : α → Bool) (L : List α) (i : Nat) (h : i < L.length) : ((L.take (i + 1)).filter p).length = ((L.take i).filter p).length + (if p L[i] = true then 1 else 0) := by
  rw [List.take_succ_eq_append_getElem h, List.filter_append, List.length_append]
  congr 1
  rw [List.filter_cons, List.filter_nil]
  split <;> rfl
theorem keep_lt {α : Type} (p : α → Bool) (L : List α) (i : Nat) : ((L.take i).filter p).length ≤ (L.filter p).length := by
  exact ((List.take_sublist i L).filter p).length_le

/-- One field in a literal's block. -/
theorem hOwnF_lit1 (w : World) (t : TypeId) (x : Fd) {base : Nat} (hb : base ≤ w.heap.size) : OwnF (w.alloc (.cells #[.string x.1, .string x.2] t)) base t (.slice (some ⟨w.heap.size, 0, none⟩) 1 1) [x] :=
  ⟨rfl, .inr ⟨w.heap.size, 1, _, rfl, hb, heap_alloc_new w _, Nat.le_refl _, by decide, rfl, rfl⟩⟩
/-- Fields but the first. -/
theorem SlF.tail {w : World} {ad : Addr} {n c : Nat} {x : Fd} {X : List Fd} (h : SlF w (some ad) (n + 1) c (x :: X)) (hc : ¬ c = 1) : SlF w (some (ad.add 2)) n (c - 1) X := by
  have h1 := h.len
  have h2 := h.cap
  have h3 := h.cm
  rw [List.length_cons] at h1
  refine ⟨by omega, by omega, by omega, (fun e => by cases e), fun _ => ⟨_, rfl, fun j y hy => ?_⟩, fun y hy => h.sz y (List.mem_cons_of_mem _ hy)⟩
  have h4 := h.cells (j + 1) y (by rw [List.getElem?_cons_succ]; exact hy)
  rw [Addr.add_add, Addr.add_add, show 2 + j * 2 = (j + 1) * 2 by omega, show 2 + (j * 2 + 1) = (j + 1) * 2 + 1 by omega]
  exact h4
theorem SlF.tail1 {w : World} {A : Option Addr} {n c : Nat} {x : Fd} {X : List Fd} (h : SlF w A (n + 1) c (x :: X)) (hc : c = 1) : n = 0 ∧ X = [] := by
  have h1 := h.len
  have h2 := h.cap
  rw [List.length_cons] at h1
  exact ⟨by omega, List.eq_nil_of_length_eq_zero (by omega)⟩

theorem slf_nil (w : World) (A : Option Addr) : SlF w A 0 0 [] := ⟨rfl, Nat.le_refl _, Nat.zero_le _, fun _ => rfl, fun h => absurd h (by omega), fun _ h => by cases h⟩

end Go.Proofs.YtmkjjidilfhojaaDoor
end
