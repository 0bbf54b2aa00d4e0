/-
  Texts that the laws of this seat lean on, one behind the other.
-/
import Derived.Test.YthhlcecojeaalaaDoorMrgZ
set_option linter.unusedSimpArgs false
set_option linter.unusedVariables false
/-
  Plain facts of layer 20: what is printed is read back, what is read is what is printed, a part of it is too short.
-/
section
namespace Go.Proofs.YthhlcecojeaalaaDoor
open Go.RowKit

theorem PGood.map {α β : Type} {p : Pr α} {q : α → List UInt8} {ok : α → Prop} (g : PGood p q ok) (f : α → β) (fi : β → α) (h1 : ∀ y, f (fi y) = y) (h2 : ∀ x, ok x → fi (f x) = x) :
    PGood (p.bind fun v => Pr.ret (f v)) (fun y => q (fi y)) (fun y => ok (fi y)) := by
  refine ⟨fun y t h => ?_, fun m y t h => ?_, fun y k h hk => ?_⟩
  · rw [Pr.bind_ok (g.back _ _ h)]
    show Except.ok (f (fi y), t) = _
    rw [h1]
  · cases hp : p m with
    | error e => rw [Pr.bind_error hp] at h; cases h
    | ok x =>
      obtain ⟨v, m2⟩ := x
      rw [Pr.bind_ok hp] at h
      cases h
      obtain ⟨h3, h4⟩ := g.only _ _ _ hp
      rw [h2 _ h3]
      exact ⟨h3, h4⟩
  · rw [Pr.bind_error (g.short _ _ h hk)]

def flgQ (b : Bool) : List UInt8 := numQ 1 (if b then 1 else 0)
def fldQ (f : Fd) : List UInt8 := txtQ f.1 ++ txtQ f.2
def fldO (f : Fd) : Prop := f.1.size ≤ 65536 ∧ f.2.size ≤ 65536
def pckQ (p : Pk) : List UInt8 := txtQ p.n ++ (flgQ p.h ++ txtQ p.v)
def pckO (p : Pk) : Prop := p.n.size ≤ 65536 ∧ p.v.size ≤ 65536
def lstQ {α : Type} (q : α → List UInt8) (l : List α) : List UInt8 := numQ 1 l.length ++ l.flatMap q
def lstO {α : Type} (ok : α → Prop) (l : List α) : Prop := l.length ≤ 64 ∧ ∀ x ∈ l, ok x
def stoQ (y : Sv) : List UInt8 := numQ 5 y.s.t ++ (numQ 2 y.s.c ++ (numQ 1 y.s.v ++ (txtQ y.s.r ++ (lstQ fldQ y.s.f ++ (txtQ y.s.b ++ lstQ pckQ y.p)))))
def stoO (y : Sv) : Prop := (0 ≤ y.s.t ∧ y.s.t ≤ 253402300799) ∧ (200 ≤ y.s.c ∧ y.s.c ≤ 599) ∧ (0 ≤ y.s.v ∧ y.s.v ≤ 1) ∧ y.s.r.size ≤ 65536 ∧ lstO fldO y.s.f ∧ y.s.b.size ≤ 65536 ∧ lstO pckO y.p
def vntQ (l : List Sv) : List UInt8 := numQ 1 l.length ++ l.flatMap stoQ
def vntO (l : List Sv) : Prop := l.length ≤ 4 ∧ ∀ x ∈ l, stoO x

def flgP : Pr Bool := (numP 1 0 1).bind fun n => Pr.ret (n == 1)
theorem flg_good : PGood flgP flgQ (fun _ => True) := by
  refine ((num_good (k := 1) (lo := 0) (hi := 1) (by omega) (by omega) (by omega) (by decide)).map (fun n => n == 1) (fun b => if b then 1 else 0) (fun b => by cases b <;> rfl) (fun n h => ?_)).same (fun b _ => rfl) (fun b => ?_)
  · have : n = 0 ∨ n = 1 := by omega
    rcases this with rfl | rfl <;> rfl
  · cases b <;> simp
theorem fld_good : PGood fldP fldQ fldO :=
  txt_good.seq (f := fun _ => txtP) (r := fun _ => txtQ) (ok2 := fun _ s => s.size ≤ 65536) (fun _ _ => txt_good) Prod.mk Prod.fst Prod.snd (fun _ _ => rfl) (fun _ _ => rfl) (fun _ => rfl)
theorem pck_good : PGood pckP pckQ pckO := by
  have g1 := flg_good.seq (f := fun _ => txtP) (r := fun _ => txtQ) (ok2 := fun _ s => s.size ≤ 65536) (fun _ _ => txt_good) Prod.mk Prod.fst Prod.snd (fun _ _ => rfl) (fun _ _ => rfl) (fun _ => rfl)
  have g2 := txt_good.seq (f := fun _ => flgP.bind fun v => txtP.bind fun y => Pr.ret (v, y)) (fun _ _ => g1) (fun a (y : Bool × ByteArray) => (⟨a, y.1, y.2⟩ : Pk)) (fun z => z.n) (fun z => (z.h, z.v)) (fun _ _ => rfl) (fun _ _ => rfl) (fun _ => rfl)
  have e : pckP = txtP.bind fun a => (flgP.bind fun v => txtP.bind fun y => Pr.ret (v, y)).bind fun y => Pr.ret (⟨a, y.1, y.2⟩ : Pk) := by
    unfold pckP flgP
    simp only [Pr.assoc, Pr.ret_bind]
  rw [e]
  exact g2.same (fun _ _ => rfl) (fun v => by simp [pckO])
def lstP {α : Type} (p : Pr α) : Pr (List α) := (numP 1 0 64).bind fun n => p.rep n.toNat
theorem lst_good {α : Type} {p : Pr α} {q : α → List UInt8} {ok : α → Prop} (g : PGood p q ok) : PGood (lstP p) (lstQ q) (lstO ok) := by
  have g1 := (num_good (k := 1) (lo := 0) (hi := 64) (by omega) (by omega) (by omega) (by decide)).seq (f := fun n => p.rep n.toNat) (fun n _ => g.rep n.toNat) Prod.mk Prod.fst Prod.snd (fun _ _ => rfl) (fun _ _ => rfl) (fun _ => rfl)
  have g2 := g1.map Prod.snd (fun l => ((l.length : Int), l)) (fun _ => rfl) (fun z h => by
    obtain ⟨n, l⟩ := z
    have h1 : (0 ≤ n ∧ n ≤ 64) ∧ (l.length = n.toNat ∧ ∀ x ∈ l, ok x) := h
    have : (l.length : Int) = n := by omega
    rw [this])
  have e : lstP p = ((numP 1 0 64).bind fun v => (p.rep v.toNat).bind fun y => Pr.ret (v, y)).bind fun v => Pr.ret v.2 := by
    unfold lstP
    simp only [Pr.assoc, Pr.ret_bind]
    congr 1
    funext n m
    unfold Pr.bind
    cases p.rep n.toNat m with
    | error e => rfl
    | ok x => rfl
  rw [e]
  refine g2.same (fun l _ => rfl) (fun l => ?_)
  show ((0 ≤ (l.length : Int) ∧ (l.length : Int) ≤ 64) ∧ (l.length = ((l.length : Int)).toNat ∧ ∀ x ∈ l, ok x)) ↔ lstO ok l
  unfold lstO
  constructor
  · rintro ⟨h1, _, h3⟩
    exact ⟨by omega, h3⟩
  · rintro ⟨h1, h2⟩
    exact ⟨⟨by omega, by omega⟩, by omega, h2⟩
theorem sto_good : PGood stoP stoQ stoO := by
  have n5 := num_good (k := 5) (lo := 0) (hi := 253402300799) (by omega) (by omega) (by omega) (by decide)
  have n2 := num_good (k := 2) (lo := 200) (hi := 599) (by omega) (by omega) (by omega) (by decide)
  have n1 := num_good (k := 1) (lo := 0) (hi := 1) (by omega) (by omega) (by omega) (by decide)
  have a6 := txt_good.seq (f := fun _ => lstP pckP) (fun _ _ => lst_good pck_good) Prod.mk Prod.fst Prod.snd (fun _ _ => rfl) (fun _ _ => rfl) (fun _ => rfl)
  have a5 := (lst_good fld_good).seq (f := fun _ => _) (fun _ _ => a6) Prod.mk Prod.fst Prod.snd (fun _ _ => rfl) (fun _ _ => rfl) (fun _ => rfl)
  have a4 := txt_good.seq (f := fun _ => _) (fun _ _ => a5) Prod.mk Prod.fst Prod.snd (fun _ _ => rfl) (fun _ _ => rfl) (fun _ => rfl)
  have a3 := n1.seq (f := fun _ => _) (fun _ _ => a4) Prod.mk Prod.fst Prod.snd (fun _ _ => rfl) (fun _ _ => rfl) (fun _ => rfl)
  have a2 := n2.seq (f := fun _ => _) (fun _ _ => a3) Prod.mk Prod.fst Prod.snd (fun _ _ => rfl) (fun _ _ => rfl) (fun _ => rfl)
  have a1 := n5.seq (f := fun _ => _) (fun _ _ => a2) Prod.mk Prod.fst Prod.snd (fun _ _ => rfl) (fun _ _ => rfl) (fun _ => rfl)
  have a0 := a1.map (fun z => (⟨⟨z.2.1, z.2.2.2.1, z.2.2.1, z.2.2.2.2.1, z.2.2.2.2.2.1, z.1⟩, z.2.2.2.2.2.2⟩ : Sv)) (fun y => (y.s.t, y.s.c, y.s.v, y.s.r, y.s.f, y.s.b, y.p)) (fun _ => rfl) (fun _ _ => rfl)
  have e : stoP = (((numP 5 0 253402300799).bind fun v => ((numP 2 200 599).bind fun v => ((numP 1 0 1).bind fun v => (txtP.bind fun v => ((lstP fldP).bind fun v => (txtP.bind fun v => (lstP pckP).bind fun y => Pr.ret (v, y)).bind fun y => Pr.ret (v, y)).bind fun y => Pr.ret (v, y)).bind fun y => Pr.ret (v, y)).bind fun y => Pr.ret (v, y)).bind fun y => Pr.ret (v, y)).bind fun z => Pr.ret (⟨⟨z.2.1, z.2.2.2.1, z.2.2.1, z.2.2.2.2.1, z.2.2.2.2.2.1, z.1⟩, z.2.2.2.2.2.2⟩ : Sv)) := by
    unfold stoP lstP
    simp only [Pr.assoc, Pr.ret_bind]
  rw [e]
  exact a0.same (fun y _ => rfl) (fun y => Iff.rfl)
theorem vnt_good : PGood vntP vntQ vntO := by
  have g1 := (num_good (k := 1) (lo := 0) (hi := 4) (by omega) (by omega) (by omega) (by decide)).seq (f := fun n => stoP.rep n.toNat) (fun n _ => sto_good.rep n.toNat) Prod.mk Prod.fst Prod.snd (fun _ _ => rfl) (fun _ _ => rfl) (fun _ => rfl)
  have g2 := g1.map Prod.snd (fun l => ((l.length : Int), l)) (fun _ => rfl) (fun z h => by
    obtain ⟨n, l⟩ := z
    have h1 : (0 ≤ n ∧ n ≤ 4) ∧ (l.length = n.toNat ∧ ∀ x ∈ l, stoO x) := h
    have : (l.length : Int) = n := by omega
    rw [this])
  have e : vntP = ((numP 1 0 4).bind fun v => (stoP.rep v.toNat).bind fun y => Pr.ret (v, y)).bind fun v => Pr.ret v.2 := by
    unfold vntP
    simp only [Pr.assoc, Pr.ret_bind]
    congr 1
    funext n m
    unfold Pr.bind
    cases stoP.rep n.toNat m with
    | error e => rfl
    | ok x => rfl
  rw [e]
  refine g2.same (fun l _ => rfl) (fun l => ?_)
  show ((0 ≤ (l.length : Int) ∧ (l.length : Int) ≤ 4) ∧ (l.length = ((l.length : Int)).toNat ∧ ∀ x ∈ l, stoO x)) ↔ vntO l
  unfold vntO
  constructor
  · rintro ⟨h1, _, h3⟩
    exact ⟨by omega, h3⟩
  · rintro ⟨h1, h2⟩
    exact ⟨⟨by omega, by omega⟩, by omega, h2⟩
/-- No error is 0. -/
def PErr {α : Type} (p : Pr α) : Prop := ∀ m e, p m = .error e → e ≠ 0
theorem PErr.bind {α β : Type} {p : Pr α} {f : α → Pr β} (h : PErr p) (k : ∀ v, PErr (f v)) : PErr (p.bind f) := fun m e he => by
  cases hp : p m with
  | error e' => rw [Pr.bind_error hp] at he; cases he; exact h _ _ hp
  | ok x => obtain ⟨v, t⟩ := x; rw [Pr.bind_ok hp] at he; exact k v _ _ he
theorem PErr.ret {α : Type} (v : α) : PErr (Pr.ret v) := fun _ _ he => by cases he
theorem PErr.rep {α : Type} {p : Pr α} (h : PErr p) : ∀ n, PErr (p.rep n)
  | 0 => PErr.ret []
  | n + 1 => h.bind fun _ => (PErr.rep h n).bind fun _ => PErr.ret _
theorem num_err (k : Nat) (lo hi : Int) : PErr (numP k lo hi) := fun m e he => by
  unfold numP at he
  split at he
  · rename_i h; cases he; exact h
  · split at he
    · cases he; decide
    · cases he
theorem txt_err : PErr txtP := fun m e he => by
  unfold txtP at he
  split at he
  · rename_i h; cases he; exact h
  · cases he
theorem fld_err : PErr fldP := txt_err.bind fun _ => txt_err.bind fun _ => PErr.ret _
theorem pck_err : PErr pckP := txt_err.bind fun _ => (num_err _ _ _).bind fun _ => txt_err.bind fun _ => PErr.ret _
theorem sto_err : PErr stoP := (num_err _ _ _).bind fun _ => (num_err _ _ _).bind fun _ => (num_err _ _ _).bind fun _ => txt_err.bind fun _ => (num_err _ _ _).bind fun _ => (fld_err.rep _).bind fun _ =>
  txt_err.bind fun _ => (num_err _ _ _).bind fun _ => (pck_err.rep _).bind fun _ => PErr.ret _
theorem vnt_err : PErr vntP := (num_err _ _ _).bind fun _ => sto_err.rep _
theorem vd_back {l : List Sv} (h : vntO l) : vdL (vntQ l) = l ∧ vdE (vntQ l) = 0 := by
  have g := vnt_good.back l [] h
  rw [List.append_nil] at g
  unfold vdL vdE
  rw [g]
  exact ⟨rfl, rfl⟩
theorem vd_only {b : List UInt8} (h : vdE b = 0) : vntO (vdL b) ∧ b = vntQ (vdL b) := by
  unfold vdE at h
  unfold vdL
  cases hp : vntP b with
  | error e => rw [hp] at h; exact absurd h (by
      intro h
      have h : e = 0 := h
      subst h
      exact (vnt_err b 0 hp) rfl)
  | ok x =>
    obtain ⟨l, t⟩ := x
    rw [hp] at h
    cases t with
    | cons a r => cases h
    | nil =>
      obtain ⟨h1, h2⟩ := vnt_good.only _ _ _ hp
      rw [List.append_nil] at h2
      exact ⟨h1, h2⟩
theorem vd_short {l : List Sv} {k : Nat} (h : vntO l) (hk : k < (vntQ l).length) : vdE ((vntQ l).take k) = 6 := by
  unfold vdE
  rw [vnt_good.short l k h hk]
theorem vd_none {b : List UInt8} (h : vdE b ≠ 0) : vdL b = [] := by
  unfold vdE at h
  unfold vdL
  cases hp : vntP b with
  | error e => rfl
  | ok x =>
    obtain ⟨l, t⟩ := x
    rw [hp] at h
    cases t with
    | cons a r => rfl
    | nil => exact absurd rfl h

/-! ### Printing -/
structure PW {α : Type} (wr : α → WS → WS) (q : α → List UInt8) (ok : α → Prop) : Prop where
  yes : ∀ v x, ok v → wr v (x, 0) = (x ++ q v, 0)
  no : ∀ v x, ¬ ok v → (wr v (x, 0)).2 ≠ 0
  bad : ∀ v x e, e ≠ 0 → wr v (x, e) = (x, e)
theorem PW.num {k : Nat} {lo hi er : Int} (hk : 1 ≤ k) (hk7 : k ≤ 7) (h0 : 0 ≤ lo) (h1 : hi < (256 ^ k : Nat)) (he : er ≠ 0) : PW (numW k lo hi er) (numQ k) (fun n => lo ≤ n ∧ n ≤ hi) := by
  refine ⟨fun v x h => ?_, fun v x h => ?_, fun v x e h => ?_⟩
  · unfold numW
    rw [if_neg (by simp), if_neg (by omega), (put_ok (n := v) (k := k) (wideB_yes.2 ⟨by omega, by omega⟩) (by rw [Int.toNat_natCast, pow_int]; omega) x).2]; rfl
  · unfold numW
    rw [if_neg (by simp), if_pos (by omega)]
    exact he
  · unfold numW
    rw [if_pos (by exact h)]
theorem PW.txt : PW txtW txtQ (fun s => s.size ≤ 65536) := by
  refine ⟨fun v x h => ?_, fun v x h => ?_, fun v x e h => ?_⟩
  · have hz := Lib.size_eq v
    have he : ptE v.data.toList = 0 := by unfold ptE; rw [if_neg (by omega)]
    unfold txtW ptL txtQ
    rw [if_neg (by simp), if_pos he, he, hz]
  · have hz := Lib.size_eq v
    unfold txtW
    rw [if_neg (by simp)]
    show ptE v.data.toList ≠ 0
    unfold ptE
    rw [if_pos (by omega)]; decide
  · unfold txtW
    rw [if_pos (by exact h)]
theorem PW.seq {α β γ : Type} {w1 : α → WS → WS} {q1 : α → List UInt8} {o1 : α → Prop} {w2 : β → WS → WS} {q2 : β → List UInt8} {o2 : β → Prop} (g1 : PW w1 q1 o1) (g2 : PW w2 q2 o2) (a : γ → α) (b : γ → β) :
    PW (fun z x => w2 (b z) (w1 (a z) x)) (fun z => q1 (a z) ++ q2 (b z)) (fun z => o1 (a z) ∧ o2 (b z)) := by
  refine ⟨fun v x h => ?_, fun v x h => ?_, fun v x e h => ?_⟩
  · show w2 _ (w1 _ _) = _
    rw [g1.yes _ _ h.1, g2.yes _ _ h.2, List.append_assoc]
  · show (w2 _ (w1 _ _)).2 ≠ 0
    rcases Classical.em (o1 (a v)) with h1 | h1
    · rw [g1.yes _ _ h1]
      exact g2.no _ _ (fun h2 => h ⟨h1, h2⟩)
    · have := g1.no _ x h1
      rcases hw : w1 (a v) (x, 0) with ⟨y, e⟩
      rw [hw] at this
      rw [g2.bad _ _ _ this]
      exact this
  · show w2 _ (w1 _ _) = _
    rw [g1.bad _ _ _ h, g2.bad _ _ _ h]
theorem PW.fold {α : Type} {wr : α → WS → WS} {q : α → List UInt8} {ok : α → Prop} (g : PW wr q ok) : PW (fun (l : List α) x => l.foldl (fun x v => wr v x) x) (fun l => l.flatMap q) (fun l => ∀ x ∈ l, ok x) := by
  have bad : ∀ (l : List α) x (e : Int), e ≠ 0 → l.foldl (fun x v => wr v x) (x, e) = (x, e) := by
    intro l
    induction l with
    | nil => intro x e _; rfl
    | cons v r ih => intro x e h; rw [List.foldl_cons, g.bad _ _ _ h, ih _ _ h]
  refine ⟨fun l => ?_, fun l => ?_, bad⟩
  · induction l with
    | nil => intro x _; simp
    | cons v r ih =>
      intro x h
      show List.foldl _ (wr v (x, 0)) r = _
      rw [g.yes _ _ (h v (List.mem_cons_self ..))]
      have := ih (x ++ q v) (fun y hy => h y (List.mem_cons_of_mem _ hy))
      rw [show List.foldl (fun x v => wr v x) (x ++ q v, 0) r = _ from this, List.flatMap_cons, List.append_assoc]
  · induction l with
    | nil => intro x h; exact absurd (fun y hy => by cases hy) h
    | cons v r ih =>
      intro x h
      show (List.foldl _ (wr v (x, 0)) r).2 ≠ 0
      rcases Classical.em (ok v) with h1 | h1
      · rw [g.yes _ _ h1]
        exact ih _ (fun h2 => h fun y hy => by rcases List.mem_cons.1 hy with rfl | hy; exact h1; exact h2 y hy)
      · have := g.no _ x h1
        rcases hw : wr v (x, 0) with ⟨y, e⟩
        rw [hw] at this
        rw [bad _ _ _ this]
        exact this
theorem PW.same {α : Type} {w1 w2 : α → WS → WS} {q q' : α → List UInt8} {ok ok' : α → Prop} (g : PW w1 q ok) (hw : ∀ v x, w1 v x = w2 v x) (hq : ∀ v, q v = q' v) (ho : ∀ v, ok v ↔ ok' v) : PW w2 q' ok' :=
  ⟨fun v x h => by rw [← hw, ← hq]; exact g.yes v x ((ho v).2 h), fun v x h => by rw [← hw]; exact g.no v x (fun q => h ((ho v).1 q)), fun v x e h => by rw [← hw]; exact g.bad v x e h⟩
theorem fld_pw : PW (fun f x => fldW x f) fldQ fldO := (PW.seq PW.txt PW.txt (fun f : Fd => f.1) (fun f => f.2)).same (fun _ _ => rfl) (fun _ => rfl) (fun _ => Iff.rfl)
theorem pck_pw : PW (fun p x => pckW x p) pckQ pckO := by
  have n1 := PW.num (k := 1) (lo := 0) (hi := 1) (er := 3) (by omega) (by omega) (by omega) (by decide) (by decide)
  refine ((PW.seq (PW.seq PW.txt n1 (fun p : Pk => p.n) (fun p => if p.h then 1 else 0)) PW.txt id (fun p => p.v)).same (fun _ _ => rfl) (fun p => ?_) (fun p => ?_))
  · show (txtQ p.n ++ _) ++ _ = _
    rw [List.append_assoc]; rfl
  · show ((_ ∧ _) ∧ _) ↔ pckO p
    unfold pckO
    constructor
    · rintro ⟨⟨h1, _⟩, h2⟩; exact ⟨h1, h2⟩
    · rintro ⟨h1, h2⟩
      refine ⟨⟨h1, ?_⟩, h2⟩
      show 0 ≤ (if p.h = true then (1 : Int) else 0) ∧ (if p.h = true then (1 : Int) else 0) ≤ 1
      split <;> omega
theorem lst_pw {α : Type} {wr : α → WS → WS} {q : α → List UInt8} {ok : α → Prop} (g : PW wr q ok) : PW (fun l x => l.foldl (fun x v => wr v x) (numW 1 0 64 4 l.length x)) (lstQ q) (lstO ok) := by
  have n1 := PW.num (k := 1) (lo := 0) (hi := 64) (er := 4) (by omega) (by omega) (by omega) (by decide) (by decide)
  refine (PW.seq n1 g.fold (fun l : List α => (l.length : Int)) id).same (fun _ _ => rfl) (fun _ => rfl) (fun l => ?_)
  show ((0 ≤ (l.length : Int) ∧ (l.length : Int) ≤ 64) ∧ ∀ x ∈ l, ok x) ↔ lstO ok l
  unfold lstO
  constructor
  · rintro ⟨h1, h2⟩; exact ⟨by omega, h2⟩
  · rintro ⟨h1, h2⟩; exact ⟨⟨by omega, by omega⟩, h2⟩
theorem sto_pw : PW (fun y x => stoW x y) stoQ stoO := by
  have n5 := PW.num (k := 5) (lo := 0) (hi := 253402300799) (er := 3) (by omega) (by omega) (by omega) (by decide) (by decide)
  have n2 := PW.num (k := 2) (lo := 200) (hi := 599) (er := 3) (by omega) (by omega) (by omega) (by decide) (by decide)
  have n1 := PW.num (k := 1) (lo := 0) (hi := 1) (er := 3) (by omega) (by omega) (by omega) (by decide) (by decide)
  have a1 := PW.seq n5 n2 (fun y : Sv => y.s.t) (fun y => y.s.c)
  have a2 := PW.seq a1 n1 id (fun y : Sv => y.s.v)
  have a3 := PW.seq a2 PW.txt id (fun y : Sv => y.s.r)
  have a4 := PW.seq a3 (lst_pw fld_pw) id (fun y : Sv => y.s.f)
  have a5 := PW.seq a4 PW.txt id (fun y : Sv => y.s.b)
  have a6 := PW.seq a5 (lst_pw pck_pw) id (fun y : Sv => y.p)
  refine a6.same (fun _ _ => rfl) (fun y => ?_) (fun y => ?_)
  · show (((((numQ 5 y.s.t ++ numQ 2 y.s.c) ++ numQ 1 y.s.v) ++ txtQ y.s.r) ++ lstQ fldQ y.s.f) ++ txtQ y.s.b) ++ lstQ pckQ y.p = stoQ y
    unfold stoQ
    simp only [List.append_assoc]
  · show ((((((_ ∧ _) ∧ _) ∧ _) ∧ _) ∧ _) ∧ _) ↔ stoO y
    unfold stoO
    constructor
    · rintro ⟨⟨⟨⟨⟨⟨h1, h2⟩, h3⟩, h4⟩, h5⟩, h6⟩, h7⟩; exact ⟨h1, h2, h3, h4, h5, h6, h7⟩
    · rintro ⟨h1, h2, h3, h4, h5, h6, h7⟩; exact ⟨⟨⟨⟨⟨⟨h1, h2⟩, h3⟩, h4⟩, h5⟩, h6⟩, h7⟩
theorem vnt_pw : PW (fun l x => l.foldl stoW (numW 1 0 4 4 l.length x)) vntQ vntO := by
  have n1 := PW.num (k := 1) (lo := 0) (hi := 4) (er := 4) (by omega) (by omega) (by omega) (by decide) (by decide)
  refine (PW.seq n1 sto_pw.fold (fun l : List Sv => (l.length : Int)) id).same (fun _ _ => rfl) (fun _ => rfl) (fun l => ?_)
  show ((0 ≤ (l.length : Int) ∧ (l.length : Int) ≤ 4) ∧ ∀ x ∈ l, stoO x) ↔ vntO l
  unfold vntO
  constructor
  · rintro ⟨h1, h2⟩; exact ⟨by omega, h2⟩
  · rintro ⟨h1, h2⟩; exact ⟨⟨by omega, by omega⟩, h2⟩
theorem ve_yes {l : List Sv} (h : vntO l) : veE l = 0 ∧ veB l = vntQ l := by
  have e : veW l = (vntQ l, 0) := by
    have := vnt_pw.yes l [] h
    rw [List.nil_append] at this
    exact this
  unfold veB veE
  rw [e]
  exact ⟨rfl, by simp⟩
theorem ve_no {l : List Sv} (h : veE l = 0) : vntO l := Classical.byContradiction fun hn => vnt_pw.no l [] hn h

end Go.Proofs.YthhlcecojeaalaaDoor
end

/-
  Plain facts of the printer (layer 20): how long its bytes are; a code stays.
-/
section
namespace Go.Proofs.YthhlcecojeaalaaDoor
open Go.RowKit
set_option linter.unusedSimpArgs false

theorem numW_len (k : Nat) (lo hi er n : Int) (x : WS) : (numW k lo hi er n x).1.length ≤ x.1.length + k := by
  unfold numW
  split
  · omega
  · split
    · show x.1.length ≤ _; omega
    · show (wPutL x.1 n k).length ≤ _
      unfold wPutL
      split
      · rw [List.length_append, leL_len, Int.toNat_natCast]; exact Nat.le_refl _
      · exact Nat.zero_le _
theorem txtW_len (s : ByteArray) (x : WS) : (txtW s x).1.length ≤ x.1.length + (4 + s.size) := by
  unfold txtW
  split
  · omega
  · show (ptL x.1 s.data.toList).length ≤ _
    unfold ptL
    split
    · rw [List.length_append, List.length_append, leL_len, ← Lib.size_eq]; exact Nat.le_refl _
    · exact Nat.zero_le _
theorem fold_len {α : Type} {f : WS → α → WS} {d : Nat} : ∀ (l : List α) (x : WS), (∀ a ∈ l, ∀ x, (f x a).1.length ≤ x.1.length + d) → (l.foldl f x).1.length ≤ x.1.length + d * l.length
  | [], x, _ => by simp
  | a :: l, x, h => by
    rw [List.foldl_cons, List.length_cons, Nat.mul_succ]
    have h1 := fold_len l (f x a) (fun b hb => h b (List.mem_cons_of_mem _ hb))
    have h2 := h a List.mem_cons_self x
    omega
/-- A stored reply's texts are small. -/
structure FwE (y : Sv) : Prop where
  r : y.s.r.size ≤ 3000
  b : y.s.b.size ≤ 3000
  fl : y.s.f.length ≤ 70
  f : ∀ x ∈ y.s.f, x.1.size ≤ 3000 ∧ x.2.size ≤ 3000
  pl : y.p.length ≤ 70
  p : ∀ x ∈ y.p, x.n.size ≤ 3000 ∧ x.v.size ≤ 3000
theorem fldW_len (x : WS) (a : Fd) (h : a.1.size ≤ 3000 ∧ a.2.size ≤ 3000) : (fldW x a).1.length ≤ x.1.length + 6008 := by
  have h1 := txtW_len a.1 x
  have h2 := txtW_len a.2 (txtW a.1 x)
  unfold fldW
  omega
theorem pckW_len (x : WS) (a : Pk) (h : a.n.size ≤ 3000 ∧ a.v.size ≤ 3000) : (pckW x a).1.length ≤ x.1.length + 6009 := by
  have h1 := txtW_len a.n x
  have h2 := numW_len 1 0 1 3 (if a.h then 1 else 0) (txtW a.n x)
  have h3 := txtW_len a.v (numW 1 0 1 3 (if a.h then 1 else 0) (txtW a.n x))
  unfold pckW
  omega
theorem fields_len {f : List Fd} (h : f.length ≤ 70) (hf : ∀ x ∈ f, x.1.size ≤ 3000 ∧ x.2.size ≤ 3000) (x : WS) : (f.foldl fldW x).1.length ≤ x.1.length + 420560 := by
  have h1 := fold_len f x (fun a ha x => fldW_len x a (hf a ha))
  have h2 : 6008 * f.length ≤ 6008 * 70 := Nat.mul_le_mul_left _ h
  omega
theorem picks_len {p : List Pk} (h : p.length ≤ 70) (hp : ∀ x ∈ p, x.n.size ≤ 3000 ∧ x.v.size ≤ 3000) (x : WS) : (p.foldl pckW x).1.length ≤ x.1.length + 420630 := by
  have h1 := fold_len p x (fun a ha x => pckW_len x a (hp a ha))
  have h2 : 6009 * p.length ≤ 6009 * 70 := Nat.mul_le_mul_left _ h
  omega
theorem stoW_len (x : WS) (y : Sv) (h : FwE y) : (stoW x y).1.length ≤ x.1.length + 850000 := by
  unfold stoW
  have hr := h.r
  have hb := h.b
  refine Nat.le_trans (picks_len h.pl h.p _) ?_
  refine Nat.le_trans (Nat.add_le_add_right (numW_len _ _ _ _ _ _) _) ?_
  refine Nat.le_trans (Nat.add_le_add_right (Nat.add_le_add_right (txtW_len _ _) _) _) ?_
  refine Nat.le_trans (Nat.add_le_add_right (Nat.add_le_add_right (Nat.add_le_add_right (fields_len h.fl h.f _) _) _) _) ?_
  have h1 := numW_len 5 0 253402300799 3 y.s.t x
  have h2 := numW_len 2 200 599 3 y.s.c (numW 5 0 253402300799 3 y.s.t x)
  have h3 := numW_len 1 0 1 3 y.s.v (numW 2 200 599 3 y.s.c (numW 5 0 253402300799 3 y.s.t x))
  have h4 := txtW_len y.s.r (numW 1 0 1 3 y.s.v (numW 2 200 599 3 y.s.c (numW 5 0 253402300799 3 y.s.t x)))
  have h5 := numW_len 1 0 64 4 y.s.f.length (txtW y.s.r (numW 1 0 1 3 y.s.v (numW 2 200 599 3 y.s.c (numW 5 0 253402300799 3 y.s.t x))))
  omega
theorem sto_len (l : List Sv) (h : ∀ y ∈ l, FwE y) (hl : l.length ≤ 8) (x : WS) (hx : x.1.length ≤ 1) : (l.foldl stoW x).1.length ≤ 6800001 := by
  have h1 := fold_len l x (fun a ha x => stoW_len x a (h a ha))
  have h2 : 850000 * l.length ≤ 850000 * 8 := Nat.mul_le_mul_left _ hl
  omega

theorem numW_stuck {x : WS} (h : x.2 ≠ 0) (k : Nat) (lo hi er n : Int) : numW k lo hi er n x = x := by unfold numW; rw [if_pos h]
theorem txtW_stuck {x : WS} (h : x.2 ≠ 0) (s : ByteArray) : txtW s x = x := by unfold txtW; rw [if_pos h]
theorem fold_stuck {α : Type} {f : WS → α → WS} {x : WS} (hf : ∀ a, f x a = x) : ∀ l : List α, l.foldl f x = x
  | [] => rfl
  | a :: l => by rw [List.foldl_cons, hf a]; exact fold_stuck hf l
theorem fldW_stuck {x : WS} (h : x.2 ≠ 0) (a : Fd) : fldW x a = x := by unfold fldW; rw [txtW_stuck h, txtW_stuck h]
theorem pckW_stuck {x : WS} (h : x.2 ≠ 0) (a : Pk) : pckW x a = x := by unfold pckW; rw [txtW_stuck h, numW_stuck h, txtW_stuck h]
theorem stoW_stuck {x : WS} (h : x.2 ≠ 0) (a : Sv) : stoW x a = x := by
  unfold stoW
  simp only [numW_stuck h, txtW_stuck h, fold_stuck (fldW_stuck h), fold_stuck (pckW_stuck h)]
theorem fold_step {α : Type} (f : WS → α → WS) (x : WS) (l : List α) {k : Nat} (hk : k < l.length) : (l.take (k + 1)).foldl f x = f ((l.take k).foldl f x) l[k] := by
  rw [List.take_succ_eq_append_getElem hk, List.foldl_append, List.foldl_cons, List.foldl_nil]
/-- A loop that ended early. -/
theorem fold_end {α : Type} (f : WS → α → WS) (hf : ∀ x : WS, x.2 ≠ 0 → ∀ a, f x a = x) (x : WS) (l : List α) {k : Nat} (h : l.length ≤ k ∨ ((l.take k).foldl f x).2 ≠ 0) : (l.take k).foldl f x = l.foldl f x := by
  rcases h with h | h
  · rw [List.take_of_length_le h]
  · conv => rhs; rw [← List.take_append_drop k l, List.foldl_append]
    exact (fold_stuck (hf _ h) _).symm
theorem fields_take {y : Sv} (h : FwE y) (j : Nat) (x : WS) : ((y.s.f.take j).foldl fldW x).1.length ≤ x.1.length + 420560 :=
  fields_len (Nat.le_trans (by rw [List.length_take]; exact Nat.min_le_right _ _) h.fl) (fun a ha => h.f a (List.mem_of_mem_take ha)) x
theorem picks_take {y : Sv} (h : FwE y) (j : Nat) (x : WS) : ((y.p.take j).foldl pckW x).1.length ≤ x.1.length + 420630 :=
  picks_len (Nat.le_trans (by rw [List.length_take]; exact Nat.min_le_right _ _) h.pl) (fun a ha => h.p a (List.mem_of_mem_take ha)) x
theorem sto_take (l : List Sv) (h : ∀ y ∈ l, FwE y) (hl : l.length ≤ 8) (k : Nat) (x : WS) (hx : x.1.length ≤ 1) : ((l.take k).foldl stoW x).1.length ≤ 6800001 :=
  sto_len _ (fun a ha => h a (List.mem_of_mem_take ha)) (Nat.le_trans (by rw [List.length_take]; exact Nat.min_le_right _ _) hl) x hx

end Go.Proofs.YthhlcecojeaalaaDoor
end
