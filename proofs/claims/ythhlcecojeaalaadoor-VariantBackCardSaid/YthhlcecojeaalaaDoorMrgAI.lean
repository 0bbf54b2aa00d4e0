/-
  Texts that the laws of this seat lean on, one behind the other.
-/
import Derived.Test.YthhlcecojeaalaaDoorMrgAH
import Derived.Test.YthhlcecojeaalaaDoorMrgAD
set_option linter.unusedSimpArgs false
set_option linter.unusedVariables false
/-
  Plain facts of the reader (layer 20): where a reader stands in what is read.
-/
section
namespace Go.Proofs.YthhlcecojeaalaaDoor
open Go.RowKit
set_option linter.unusedSimpArgs false

/-- V is what q reads at x's place, or x's code. -/
structure At {β : Type} (l : List UInt8) (V : Except Int (β × List UInt8)) (x : RS) (q : Pr β) : Prop where
  ok : x.2 = 0 → q (l.drop x.1) = V
  er : x.2 ≠ 0 → V = .error x.2
theorem At.start {β : Type} (l : List UInt8) (q : Pr β) : At l (q l) (0, 0) q := ⟨fun _ => rfl, fun h => absurd rfl h⟩
theorem At.any {β : Type} {l : List UInt8} {V : Except Int (β × List UInt8)} {x : RS} {q q' : Pr β} (h : At l V x q) (hx : x.2 ≠ 0) : At l V x q' := ⟨fun h0 => absurd h0 hx, h.er⟩
theorem At.to {β : Type} {l : List UInt8} {V : Except Int (β × List UInt8)} {x : RS} {q q' : Pr β} (h : At l V x q) (hq : q = q') : At l V x q' := hq ▸ h
theorem num_ok {k : Nat} {lo hi : Int} {m t : List UInt8} {v : Int} (h : numP k lo hi m = .ok (v, t)) : t = m.drop k ∧ lo ≤ v ∧ v ≤ hi := by
  unfold numP at h
  split at h
  · cases h
  · split at h
    · cases h
    · cases h
      exact ⟨rfl, by omega, by omega⟩
theorem numP_err {k : Nat} {lo hi e : Int} {m : List UInt8} (h : numP k lo hi m = .error e) : e ≠ 0 := by
  unfold numP at h
  split at h
  · cases h; assumption
  · split at h
    · cases h; decide
    · cases h
theorem txt_ok {m t : List UInt8} {s : ByteArray} (h : txtP m = .ok (s, t)) : t = m.drop (textK m) := by
  unfold txtP at h
  split at h
  · cases h
  · cases h; rfl
theorem txtP_err {e : Int} {m : List UInt8} (h : txtP m = .error e) : e ≠ 0 := by
  unfold txtP at h
  split at h
  · cases h; assumption
  · cases h
theorem num_step {β : Type} {l : List UInt8} {V : Except Int (β × List UInt8)} {x : RS} {k : Nat} {lo hi : Int} {f : Int → Pr β} (h : At l V x ((numP k lo hi).bind f)) :
    At l V (numR k lo hi l x).2 (f (numR k lo hi l x).1) := by
  unfold numR
  by_cases hx : x.2 ≠ 0
  · rw [if_pos hx]
    exact h.any hx
  · rw [if_neg hx]
    have h0 := h.ok (by simpa using hx)
    cases hp : numP k lo hi (l.drop x.1) with
    | ok z =>
      obtain ⟨v, t⟩ := z
      rw [Pr.bind_ok hp, (num_ok hp).1, List.drop_drop] at h0
      exact ⟨fun _ => h0, fun q => absurd rfl q⟩
    | error e =>
      rw [Pr.bind_error hp] at h0
      exact ⟨fun q => absurd q (numP_err hp), fun _ => h0.symm⟩
theorem txt_step {β : Type} {l : List UInt8} {V : Except Int (β × List UInt8)} {x : RS} {f : ByteArray → Pr β} (h : At l V x (txtP.bind f)) : At l V (txtR l x).2 (f (txtR l x).1) := by
  unfold txtR
  by_cases hx : x.2 ≠ 0
  · rw [if_pos hx]
    exact h.any hx
  · rw [if_neg hx]
    have h0 := h.ok (by simpa using hx)
    cases hp : txtP (l.drop x.1) with
    | ok z =>
      obtain ⟨v, t⟩ := z
      rw [Pr.bind_ok hp, txt_ok hp, List.drop_drop] at h0
      exact ⟨fun _ => h0, fun q => absurd rfl q⟩
    | error e =>
      rw [Pr.bind_error hp] at h0
      exact ⟨fun q => absurd q (txtP_err hp), fun _ => h0.symm⟩
theorem rep_zero {α β : Type} (p : Pr α) (f : List α → Pr β) : (p.rep 0).bind f = f [] := rfl
theorem rep_succ {α β : Type} (p : Pr α) (n : Nat) (f : List α → Pr β) : (p.rep (n + 1)).bind f = p.bind fun v => (p.rep n).bind fun r => f (v :: r) := by
  funext m
  show Pr.bind (Pr.bind _ _) _ _ = _
  rw [Pr.assoc]
  congr 1
  funext v
  rw [Pr.assoc]
  rfl
/-- Behind j of n: what is read of a list so far. -/
theorem rep_next {α β : Type} (p : Pr α) (f : List α → Pr β) (X : List α) {n j : Nat} (h : j < n) :
    ((p.rep (n - j)).bind fun r => f (X ++ r)) = p.bind fun v => (p.rep (n - (j + 1))).bind fun r => f ((X ++ [v]) ++ r) := by
  rw [show n - j = (n - (j + 1)) + 1 by omega, rep_succ]
  congr 1
  funext v
  congr 1
  funext r
  rw [List.append_assoc]
  rfl
theorem rep_end {α β : Type} (p : Pr α) (f : List α → Pr β) (X : List α) {n j : Nat} (h : n ≤ j) : ((p.rep (n - j)).bind fun r => f (X ++ r)) = f X := by
  rw [show n - j = 0 by omega, rep_zero, List.append_nil]
theorem numR_bd {k : Nat} {lo hi : Int} (l : List UInt8) (x : RS) : (numR k lo hi l x).1 = 0 ∨ (lo ≤ (numR k lo hi l x).1 ∧ (numR k lo hi l x).1 ≤ hi) := by
  unfold numR
  split
  · exact .inl rfl
  · split
    · rename_i h; exact .inr ⟨(num_ok h).2.1, (num_ok h).2.2⟩
    · exact .inl rfl
theorem txtR_size (l : List UInt8) (x : RS) : (txtR l x).1.size ≤ l.length := by
  have h0 : (mkS []).size ≤ l.length := by rw [mkS_size]; exact Nat.zero_le _
  unfold txtR
  split
  · exact h0
  · split
    · rename_i s t h
      show s.size ≤ _
      unfold txtP at h
      split at h
      · cases h
      · cases h
        rw [mkS_size]
        unfold textV
        split
        · rw [List.length_take, List.length_drop, List.length_drop]; omega
        · exact Nat.zero_le _
    · exact h0
/-- The end: all is read, and nothing is left. -/
theorem vd_at {l : List UInt8} {x : RS} {L : List Sv} (h : At l (vntP l) x (Pr.ret L)) (hx : x.1 ≤ l.length) :
    (x.2 ≠ 0 → vdE l = x.2 ∧ vdL l = []) ∧ (x.2 = 0 → x.1 < l.length → vdE l = 5 ∧ vdL l = []) ∧ (x.2 = 0 → ¬ x.1 < l.length → vdE l = 0 ∧ vdL l = L) := by
  refine ⟨fun h0 => ?_, fun h0 h1 => ?_, fun h0 h1 => ?_⟩
  · have e := h.er h0
    unfold vdE vdL
    rw [e]
    exact ⟨rfl, rfl⟩
  · have e : vntP l = .ok (L, l.drop x.1) := (h.ok h0).symm
    unfold vdE vdL
    rw [e]
    cases hd : l.drop x.1 with
    | nil =>
      have := congrArg List.length hd
      rw [List.length_drop, List.length_nil] at this
      omega
    | cons a r => exact ⟨rfl, rfl⟩
  · have e : vntP l = .ok (L, l.drop x.1) := (h.ok h0).symm
    have hd : l.drop x.1 = [] := List.drop_eq_nil_of_le (by omega)
    unfold vdE vdL
    rw [e, hd]
    exact ⟨rfl, rfl⟩

/-! ### The readers, part by part -/
theorem fld_bind {β : Type} (g : Fd → Pr β) : fldP.bind g = txtP.bind fun a => txtP.bind fun v => g (a, v) := by
  unfold fldP
  simp only [Pr.assoc, Pr.ret_bind]
theorem pck_bind {β : Type} (g : Pk → Pr β) : pckP.bind g = txtP.bind fun a => (numP 1 0 1).bind fun h => txtP.bind fun v => g ⟨a, h == 1, v⟩ := by
  unfold pckP
  simp only [Pr.assoc, Pr.ret_bind]
/-- What is read of a stored reply behind its fields, its picks. -/
def stoK2 {β : Type} (g : Sv → Pr β) (s : Stor) (K : List Pk) : Pr β := g ⟨s, K⟩
def stoK {β : Type} (g : Sv → Pr β) (t c v : Int) (r : ByteArray) (F : List Fd) : Pr β :=
  txtP.bind fun b => (numP 1 0 64).bind fun p => (pckP.rep p.toNat).bind (stoK2 g ⟨c, r, v, F, b, t⟩)
theorem sto_bind {β : Type} (g : Sv → Pr β) : stoP.bind g = (numP 5 0 253402300799).bind fun t => (numP 2 200 599).bind fun c => (numP 1 0 1).bind fun v => txtP.bind fun r => (numP 1 0 64).bind fun f => (fldP.rep f.toNat).bind (stoK g t c v r) := by
  unfold stoP
  simp only [Pr.assoc, Pr.ret_bind]
  rfl
/-- What is read behind j stored replies of n. -/
def vntK (n j : Nat) (X : List Sv) : Pr (List Sv) := (stoP.rep (n - j)).bind fun r => Pr.ret (X ++ r)
theorem vntK_start (n : Nat) : vntK n 0 [] = stoP.rep n := by
  unfold vntK
  funext m
  show Pr.bind _ _ _ = _
  unfold Pr.bind Pr.ret
  rw [Nat.sub_zero]
  cases stoP.rep n m with
  | ok z => rfl
  | error e => rfl
theorem vntK_next {n j : Nat} (X : List Sv) (h : j < n) : vntK n j X = stoP.bind fun v => vntK n (j + 1) (X ++ [v]) := rep_next stoP (fun r => Pr.ret r) X h
theorem vntK_end {n j : Nat} (X : List Sv) (h : n ≤ j) : vntK n j X = Pr.ret X := rep_end stoP (fun r => Pr.ret r) X h
theorem vnt_at (l : List UInt8) : At l (vntP l) (numR 1 0 4 l (0, 0)).2 (vntK (numR 1 0 4 l (0, 0)).1.toNat 0 []) := by
  rw [vntK_start]
  exact num_step (f := fun n => stoP.rep n.toNat) (At.start l vntP)
/-- A round of the loop over the stored replies begins, .. -/
theorem vntK_go {l : List UInt8} {V : Except Int (List Sv × List UInt8)} {x : RS} {n j : Nat} {X : List Sv} (h : At l V x (vntK n j X)) (hj : j < n) :
    At l V x ((numP 5 0 253402300799).bind fun t => (numP 2 200 599).bind fun c => (numP 1 0 1).bind fun v => txtP.bind fun r => (numP 1 0 64).bind fun f => (fldP.rep f.toNat).bind (stoK (fun v => vntK n (j + 1) (X ++ [v])) t c v r)) :=
  h.to (by rw [vntK_next X hj, sto_bind])
/-- What is read behind j of n parts, with what was read of them. -/
def repK {α β : Type} (p : Pr α) (f : List α → Pr β) (n j : Nat) (X : List α) : Pr β := (p.rep (n - j)).bind fun r => f (X ++ r)
theorem repK_end {α β : Type} (p : Pr α) (f : List α → Pr β) {n j : Nat} (X : List α) (h : n ≤ j) : repK p f n j X = f X := rep_end p f X h
theorem fld_go {β : Type} {l : List UInt8} {V : Except Int (β × List UInt8)} {x : RS} {f : List Fd → Pr β} {n j : Nat} {X : List Fd} (h : At l V x (repK fldP f n j X)) (hj : j < n) :
    At l V x (txtP.bind fun a => txtP.bind fun v => repK fldP f n (j + 1) (X ++ [(a, v)])) :=
  h.to (by unfold repK; rw [rep_next fldP f X hj, fld_bind])
theorem pck_go {β : Type} {l : List UInt8} {V : Except Int (β × List UInt8)} {x : RS} {f : List Pk → Pr β} {n j : Nat} {X : List Pk} (h : At l V x (repK pckP f n j X)) (hj : j < n) :
    At l V x (txtP.bind fun a => (numP 1 0 1).bind fun b => txtP.bind fun v => repK pckP f n (j + 1) (X ++ [⟨a, b == 1, v⟩])) :=
  h.to (by unfold repK; rw [rep_next pckP f X hj, pck_bind])

end Go.Proofs.YthhlcecojeaalaaDoor
end

/-
  Slices of stored replies whose lists are the call's own: blocks told apart by their type; append that says which block changes (layer 20, for Decode).
-/
section
namespace Go.Proofs.YthhlcecojeaalaaDoor
open Go.RowKit
set_option linter.unusedSimpArgs false

/-- The block at A holds cells of type t. -/
def TyA (w : World) (A : Option Addr) (t : TypeId) : Prop := ∀ ad, A = some ad → ∃ cs, w.heap[ad.block]? = some (.cells cs t (0, 0))
theorem TyA.none_ (w : World) (t : TypeId) : TyA w none t := fun _ e => by cases e
theorem TyA.of_own {w : World} {base e k m n c : Nat} {A : Option Addr} {cs : List Value} (h : w.ownsRow base e k (.slice A n c) m cs) : TyA w A e := fun ad ha => by
  rcases h.2 with ⟨q, _⟩ | ⟨g, cap, cur, q, _, hg, _⟩
  · subst ha; cases q
  · subst ha
    simp only [Value.slice.injEq, Option.some.injEq] at q
    rw [q.1]
    exact ⟨cur, hg⟩
theorem TyA.ne {w : World} {A : Option Addr} {t t' g : Nat} {cs : Array Value} (h : TyA w A t) (hg : w.heap[g]? = some (.cells cs t' (0, 0))) (ht : (t == t') = false) : ∀ ad, A = some ad → ad.block ≠ g := fun ad ha e => by
  obtain ⟨cs', h1⟩ := h ad ha
  rw [e, hg] at h1
  simp only [Option.some.injEq, Obj.cells.injEq] at h1
  have := h1.2.1
  subst this
  simp at ht
theorem TyA.lt {w : World} {A : Option Addr} {t : TypeId} (h : TyA w A t) : ∀ ad, A = some ad → ad.block < w.heap.size := fun ad ha => by
  obtain ⟨cs, h1⟩ := h ad ha
  exact (Array.getElem?_eq_some_iff.1 h1).1
theorem TyA.keep {w w' : World} {A : Option Addr} {t : TypeId} (h : TyA w A t) (hk : ∀ ad, A = some ad → w'.heap[ad.block]? = w.heap[ad.block]?) : TyA w' A t := fun ad ha => by
  obtain ⟨cs, h1⟩ := h ad ha
  exact ⟨cs, (hk ad ha).trans h1⟩
theorem TyA.but {w w' : World} {R : Nat} {A : Option Addr} {t : TypeId} (h : TyA w A t) (hR : ∀ ad, A = some ad → ad.block ≠ R) (hb : ButB R w w') : TyA w' A t :=
  h.keep fun ad ha => hb.block _ (h.lt ad ha) (hR ad ha)
theorem TyA.grown {w w' : World} {v : Value} {A : Option Addr} {t : TypeId} (h : TyA w A t) (hv : ∀ ad, A = some ad → some ad.block ≠ v.ownBlock) (hg : w.grownBy w' v.ownBlock) : TyA w' A t :=
  h.keep fun ad ha => hg.block _ (h.lt ad ha) (hv ad ha)

/-- What lies in blocks that a change leaves. -/
theorem SlF.blocks {w w' : World} {A : Option Addr} {n c : Nat} {L : List Fd} (h : SlF w A n c L) (hk : ∀ ad, A = some ad → w'.heap[ad.block]? = w.heap[ad.block]?) : SlF w' A n c L :=
  ⟨h.len, h.cap, h.cm, h.nil, fun hn => by
    obtain ⟨ad, e, hc⟩ := h.at_ hn
    refine ⟨ad, e, fun j x hx => ⟨?_, ?_⟩⟩
    · exact (World.cell?_of_block (w := w) (by rw [add_block]; exact hk ad e)).trans (hc j x hx).1
    · exact (World.cell?_of_block (w := w) (by rw [add_block]; exact hk ad e)).trans (hc j x hx).2, h.sz⟩
theorem SlK.blocks {w w' : World} {A : Option Addr} {n c : Nat} {L : List Pk} (h : SlK w A n c L) (hk : ∀ ad, A = some ad → w'.heap[ad.block]? = w.heap[ad.block]?) : SlK w' A n c L :=
  ⟨h.len, h.cap, h.cm, h.nil, fun hn => by
    obtain ⟨ad, e, hc⟩ := h.at_ hn
    refine ⟨ad, e, fun j x hx => ⟨?_, ?_, ?_⟩⟩
    · exact (World.cell?_of_block (w := w) (by rw [add_block]; exact hk ad e)).trans (hc j x hx).1
    · exact (World.cell?_of_block (w := w) (by rw [add_block]; exact hk ad e)).trans (hc j x hx).2.1
    · exact (World.cell?_of_block (w := w) (by rw [add_block]; exact hk ad e)).trans (hc j x hx).2.2, h.sz⟩
/-- A stored reply whose lists lie in blocks of their own types. -/
structure SdTy (w : World) (y : Sd) : Prop where
  a : SdAt w y
  f : TyA w y.fa 62
  k : TyA w y.pa 53
theorem SdTy.keep {w w' : World} {y : Sd} (h : SdTy w y) (hf : ∀ ad, y.fa = some ad → w'.heap[ad.block]? = w.heap[ad.block]?) (hk : ∀ ad, y.pa = some ad → w'.heap[ad.block]? = w.heap[ad.block]?) : SdTy w' y :=
  ⟨⟨h.a.f.blocks hf, h.a.k.blocks hk⟩, h.f.keep hf, h.k.keep hk⟩
/-- .. as all but a block of another type is. -/
theorem SdTy.but {w w' : World} {R t : Nat} {cs : Array Value} {y : Sd} (h : SdTy w y) (hR : w.heap[R]? = some (.cells cs t (0, 0))) (h1 : (62 == t) = false) (h2 : (53 == t) = false) (hb : ButB R w w') : SdTy w' y :=
  h.keep (fun ad ha => hb.block _ (h.f.lt ad ha) (h.f.ne hR h1 ad ha)) (fun ad ha => hb.block _ (h.k.lt ad ha) (h.k.ne hR h2 ad ha))
theorem ownBlock_row {w : World} {base e k m : Nat} {v : Value} {cs : List Value} (h : w.ownsRow base e k v m cs) {g : Nat} (hv : v.ownBlock = some g) : ∃ cur, w.heap[g]? = some (.cells cur e (0, 0)) := by
  rcases h.2 with ⟨q, _⟩ | ⟨g', cap, cur, q, _, hg, _⟩
  · rw [q] at hv; cases hv
  · rw [q] at hv
    cases hv
    exact ⟨cur, hg⟩
/-- .. as a row of stored replies that grows is. -/
theorem SdTy.grown {w w' : World} {base e k m : Nat} {v : Value} {cs : List Value} {y : Sd} (h : SdTy w y) (ho : w.ownsRow base e k v m cs) (h1 : (62 == e) = false) (h2 : (53 == e) = false) (hg : w.grownBy w' v.ownBlock) : SdTy w' y := by
  refine h.keep (fun ad ha => hg.block _ (h.f.lt ad ha) fun q => ?_) (fun ad ha => hg.block _ (h.k.lt ad ha) fun q => ?_)
  · obtain ⟨cur, hc⟩ := ownBlock_row ho q.symm
    exact h.f.ne hc h1 ad ha rfl
  · obtain ⟨cur, hc⟩ := ownBlock_row ho q.symm
    exact h.k.ne hc h2 ad ha rfl
/-- A row of the call's own is as it was, where its block is. -/
theorem own_but {w w' : World} {base e k m R : Nat} {v : Value} {cs : List Value} (h : w.ownsRow base e k v m cs) (hR : R < base) (hb : ButB R w w') : w'.ownsRow base e k v m cs := by
  refine ⟨h.1, ?_⟩
  rcases h.2 with q | ⟨g, cap, cur, q, hg, hr, h3⟩
  · exact .inl q
  · exact .inr ⟨g, cap, cur, q, hg, (hb.block g (Array.getElem?_eq_some_iff.1 hr).1 (by omega)).trans hr, h3⟩
theorem ButB.setNew {w w' : World} {R : Nat} (h : ButB R w w') {p : Addr} (hp : w.heap.size ≤ p.block) (u : Value) : ButB R w (w'.setCell p u) :=
  ⟨h.os, h.tape, h.output, Nat.le_trans h.size (by simp [World.setCell]), fun k hk hR => (Below.heap_setCell _ _ _ _ (by omega)).trans (h.block k hk hR)⟩
theorem ButB.allocNew {w w' : World} {R : Nat} (h : ButB R w w') (o : Obj) : ButB R w (w'.alloc o) :=
  h.trans (ButB.of_below ((Below.refl _ _).alloc (Nat.le_refl _) o))

/-- 'append(out, xs...)' on stored replies, and which block changes. -/
theorem wpList_append_sldG {P : Program} {ops : Array Oper} {rest : List Oper} {o : Oper} {a : Act} {w : World} {Q : Exit → Act → World → Prop} (hgd : o.guard = none) (s x : Operand) (t : TypeId)
    (ho : o.op = .call { callee := .builtin .append, args := #[s, x], argTypes := #[t, t] }) (base e : Nat) (ht : P.underlying t = some (.slice e))
    (hI : (P.info? e).map (fun i => (i.zero, i.size, i.bytes)) = some (some (.agg #[.int .i64 0, .string ⟨#[]⟩, .int .i64 0, .slice none 0 0, .string ⟨#[]⟩, .int .i64 0, .slice none 0 0]), 7, 104)) (v : Value) (hs : a.eval s = v) (X : List Sd) (hown : OwnD w base e v X)
    (ad : Addr) (m c : Nat) (hx : a.eval x = .slice (some ad) m c) (Y : List Sd) (hl : Y.length = m) (hY : ∀ j u, (sdR Y)[j]? = some u → w.cell? (ad.add j) = some u) (hlen : X.length + Y.length ≤ 100000000) (hbase : base ≤ w.heap.size)
    (h : ∀ v' w', Hid (OwnD w' base e v' (X ++ Y)) → Hid (w.grownBy w' v.ownBlock) → wpList P ops Q rest (a.put o.dst v') w') : wpList P ops Q (o :: rest) a w := by
  obtain ⟨i0, hi, hz0, hz1, hz2⟩ := info_parts hI
  refine wpList_append_own w hgd s x t ho base e i0 (.agg #[.int .i64 0, .string ⟨#[]⟩, .int .i64 0, .slice none 0 0, .string ⟨#[]⟩, .int .i64 0, .slice none 0 0]) 7 104 ht hi hz0 hz1 hz2 rfl (by decide) v _ _ hs hown ad m c (sdR Y) hx (by rw [sdR_len, hl]) hY (sdR_ones _) (by unfold maxLen; omega) (by omega) hbase ?_
  intro v' w' hown' hgrow _
  refine h v' w' ?_ hgrow
  show World.ownsRow _ _ _ _ _ _ _
  rw [List.length_append, hl, sdR_append]
  exact hown'

end Go.Proofs.YthhlcecojeaalaaDoor
end
