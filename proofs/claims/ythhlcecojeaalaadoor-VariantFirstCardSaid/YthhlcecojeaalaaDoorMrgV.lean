/-
  Texts that the laws of this seat lean on, one behind the other.
-/
import Derived.Test.YthhlcecojeaalaaDoorMrgC
import Derived.Test.YthhlcecojeaalaaDoorMrgJ
import Derived.Test.YthhlcecojeaalaaDoorMrgU
import Derived.Test.YthhlcecojeaalaaDoorMrgD
import Derived.Test.YthhlcecojeaalaaDoorMrgK
import Derived.Laws.Tables
import Derived.Test.YthhlcecojeaalaaDoorMrgR
import Derived.Deep.QuietTactic
import Derived.BigQuiet
import Derived.Test.YthhlcecojeaalaaDoorMrgP
import Derived.Laws.Cover1
import Derived.Lib.MinMax
set_option linter.unusedSimpArgs false
set_option linter.unusedVariables false
/-
  Plain functions of layer 12, without the program: what a message is, how it is read, printed and checked.
-/
section
namespace Go.Proofs.YthhlcecojeaalaaDoor
open Go.RowKit

def clS : ByteArray := ⟨#[67, 111, 110, 116, 101, 110, 116, 45, 76, 101, 110, 103, 116, 104]⟩
def teS : ByteArray := ⟨#[84, 114, 97, 110, 115, 102, 101, 114, 45, 69, 110, 99, 111, 100, 105, 110, 103]⟩
def trS : ByteArray := ⟨#[84, 114, 97, 105, 108, 101, 114]⟩
def hoS : ByteArray := ⟨#[72, 111, 115, 116]⟩
def ckS : ByteArray := ⟨#[99, 104, 117, 110, 107, 101, 100]⟩
/-- The framing fields' names. -/
def frm : List (List UInt8) := [clS.data.toList, teS.data.toList, trS.data.toList]
def bodL (c : Int) : Bool := decide (c = 204) || decide (c = 304)

/-! ### The head -/
/-- The lines of a head, and what stands behind it. -/
def hdr : Nat → List (List UInt8) → List UInt8 → Option (List (List UInt8) × List UInt8)
  | 0, _, _ => none
  | m + 1, X, l => match lineL l with
    | none => none
    | some (ln, r) => if ln = [] then some (X, r) else hdr m (X ++ [ln]) r
def hdO (s : ByteArray) : Option (List (List UInt8) × List UInt8) := hdr (s.size + 1) [] s.data.toList
def hdL (s : ByteArray) : List (List UInt8) := match hdO s with | some p => p.1 | none => []
def hdR (s : ByteArray) : ByteArray := match hdO s with | some p => mkS p.2 | none => ⟨#[]⟩
def hdB (s : ByteArray) : Bool := match hdO s with | some p => decide (0 < p.1.length) | none => false
/-! ### Fields of lines -/
def fsE : List (List UInt8) → Int
  | [] => 0
  | x :: r => if flX (mkS x) = 0 then fsE r else flX (mkS x)
def rwE (L : List (List UInt8)) : Int := if 64 < L.length then 4 else fsE L
def rwF (L : List (List UInt8)) : List Fd := if rwE L = 0 then L.map (fun x => flF (mkS x)) else []

/-! ### How many Hosts, which length -/
def hoB (L : List Fd) (v : Int) : Bool := decide ((fdAll L hoS).length = 1) || (decide ((fdAll L hoS).length = 0) && decide (v = 0))
def lnI (n : Int) : List (List UInt8) → Option Int
  | [] => some n
  | x :: r => if numE 10 18 65536 x ≠ 0 then none else if 0 ≤ n ∧ numN 10 18 65536 x ≠ n then none else lnI (numN 10 18 65536 x) r
def lnV (n : Int) : List (List UInt8) → Option Int
  | [] => some n
  | v :: r => match splitL v with
    | none => none
    | some L => match lnI n L with
      | none => none
      | some m => lnV m r
def lnA (V : List (List UInt8)) : Int := match lnV (-1) V with | some n => n | none => 0
def lnB (V : List (List UInt8)) : Bool := match lnV (-1) V with | some n => decide (0 ≤ n) | none => false
/-! ### The body -/
def teB (T C : List (List UInt8)) (v : Int) : Bool := ((decide (v = 1) && decide (T.length = 1)) && sameB (mkS (T.headD [])) ckS) && decide (C.length = 0)
/-- The body's error, by what Transfer-Encoding and Content-Length there are. -/
def bdE (T C : List (List UInt8)) (s : ByteArray) (v : Int) (op : Bool) : Int :=
  if 0 < T.length then (if teB T C v then (if decE s = 0 then (if decN s = (s.size : Int) then 0 else 22) else decE s) else 22)
  else if 0 < C.length then (if lnB C then (if lnA C < (s.size : Int) then 22 else if (s.size : Int) < lnA C then 6 else 0) else 22)
  else if op then 0 else if s.size = 0 then 0 else 22
def bdB (T C : List (List UInt8)) (s : ByteArray) (v : Int) (op : Bool) : ByteArray := if bdE T C s v op = 0 then (if 0 < T.length then decB s else s) else ⟨#[]⟩
def bodE (L : List Fd) (s : ByteArray) (v : Int) (op : Bool) : Int := bdE (fdAll L teS) (fdAll L clS) s v op
def bodB (L : List Fd) (s : ByteArray) (v : Int) (op : Bool) : ByteArray := bdB (fdAll L teS) (fdAll L clS) s v op

/-! ### Messages -/
structure Rqst where
  m : ByteArray
  t : ByteArray
  v : Int
  f : List Fd
  b : ByteArray
structure Rply where
  c : Int
  r : ByteArray
  v : Int
  f : List Fd
  b : ByteArray
def rq0 : Rqst := ⟨⟨#[]⟩, ⟨#[]⟩, 0, [], ⟨#[]⟩⟩
def rp0 : Rply := ⟨0, ⟨#[]⟩, 0, [], ⟨#[]⟩⟩
def l1S (raw : ByteArray) : ByteArray := mkS ((hdL raw).headD [])
def rsF (raw : ByteArray) : List Fd := rwF (hdL raw).tail
def rsE (raw : ByteArray) : Int := rwE (hdL raw).tail
/-- What ParseRequest answers. -/
def pqE (raw : ByteArray) : Int :=
  if 65536 < raw.size then 4 else if hdB raw = false then 5 else if rqE (l1S raw) ≠ 0 then rqE (l1S raw) else if rsE raw ≠ 0 then rsE raw
  else if hoB (rsF raw) (rqV (l1S raw)) = false then 26 else bodE (rsF raw) (hdR raw) (rqV (l1S raw)) false
def pqR (raw : ByteArray) : Rqst :=
  if pqE raw = 0 then ⟨rqA (l1S raw), rqB (l1S raw), rqV (l1S raw), fdDrop (rsF raw) frm, bodB (rsF raw) (hdR raw) (rqV (l1S raw)) false⟩ else rq0
/-- What ParseReply answers. -/
def heB (meth : ByteArray) (c : Int) : Bool := (meth.toList == [72, 69, 65, 68]) || bodL c
def ppE (raw meth : ByteArray) : Int :=
  if 65536 < raw.size then 4 else if hdB raw = false then 5 else if stE (l1S raw) ≠ 0 then stE (l1S raw) else if stN (l1S raw) < 200 then 20 else if rsE raw ≠ 0 then rsE raw
  else if heB meth (stN (l1S raw)) then (if (hdR raw).size = 0 then 0 else 22) else bodE (rsF raw) (hdR raw) (stV' (l1S raw)) true
def ppR (raw meth : ByteArray) : Rply :=
  if ppE raw meth = 0 then ⟨stN (l1S raw), stB (l1S raw), stV' (l1S raw), fdDrop (rsF raw) frm, if heB meth (stN (l1S raw)) then ⟨#[]⟩ else bodB (rsF raw) (hdR raw) (stV' (l1S raw)) true⟩ else rp0

/-! ### Printed messages -/
def crS : ByteArray := ⟨#[13, 10]⟩
def lnsL (L : List Fd) : List UInt8 := L.flatMap fun x => (lineS x).data.toList ++ [13, 10]
def clH : ByteArray := ⟨#[67, 111, 110, 116, 101, 110, 116, 45, 76, 101, 110, 103, 116, 104, 58, 32]⟩
def clL (b : ByteArray) : List UInt8 := clH.data.toList ++ plainL (b.size : Int) ++ [13, 10]
def pmQ (r : Rqst) : ByteArray := mkS ((prqS r.m r.t r.v).data.toList ++ [13, 10] ++ lnsL r.f ++ (if r.b.size = 0 then [] else clL r.b) ++ [13, 10] ++ r.b.data.toList)
def pmP (r : Rply) (head : Bool) : ByteArray :=
  mkS ((pstS r.c r.r r.v).data.toList ++ [13, 10] ++ lnsL r.f ++ (if bodL r.c then [] else if head && decide (r.b.size = 0) then [] else clL r.b) ++ [13, 10] ++ (if bodL r.c || head then [] else r.b.data.toList))

/-! ### Checks -/
def ftE (L : List Fd) : Int := if chkN L ≠ 0 then chkN L else if (fdDrop L frm).length ≠ L.length then 21 else 0
def lqB (r : Rqst) : Bool := ((rqE (prqS r.m r.t r.v) == 0) && ((rqA (prqS r.m r.t r.v)).toList == r.m.toList)) && ((rqB (prqS r.m r.t r.v)).toList == r.t.toList)
def ckQ (r : Rqst) : Int :=
  if r.v < 0 ∨ 1 < r.v then 20 else if lqB r = false then 20 else if ftE r.f ≠ 0 then ftE r.f else if hoB r.f r.v = false then 26
  else if 65536 < (pmQ r).size then 4 else if r.b.size ≠ 0 ∧ 64 ≤ r.f.length then 4 else 0
def lpB (r : Rply) : Bool := (stE (pstS r.c r.r r.v) == 0) && ((stB (pstS r.c r.r r.v)).toList == r.r.toList)
def ckP (r : Rply) : Int :=
  if (r.v < 0 ∨ 1 < r.v) ∨ (r.c < 200 ∨ 599 < r.c) then 20 else if lpB r = false then 20 else if ftE r.f ≠ 0 then ftE r.f
  else if bodL r.c = true ∧ r.b.size ≠ 0 then 22 else if 65536 < (pmP r false).size then 4 else if bodL r.c = false ∧ 64 ≤ r.f.length then 4 else 0

/-! ### Messages as values -/
def rqC (r : Rqst) (A : Option Addr) (c : Nat) : Array Value := #[.string r.m, .string r.t, .int .i64 r.v, .slice A r.f.length c, .string r.b]
def rpC (r : Rply) (A : Option Addr) (c : Nat) : Array Value := #[.int .i64 r.c, .string r.r, .int .i64 r.v, .slice A r.f.length c, .string r.b]
/-- What lies at A was made since. -/
def FreshA (w : World) (A : Option Addr) : Prop := ∀ ad, A = some ad → w.heap.size ≤ ad.block
theorem FreshA.none_ (w : World) : FreshA w none := fun _ h => by cases h
/-- The answer is a request (a reply) and a code; the fields lie in memory of the call's own. -/
def IsRq (w : World) (r : Rqst) (E : Int) (e : Ending) (w' : World) : Prop := ∃ A c, e = .returned (.tuple #[.agg (rqC r A c), .int .i64 E]) ∧ SlF w' A r.f.length c r.f ∧ FreshA w A ∧ Below w.heap.size w w'
def IsRp (w : World) (r : Rply) (E : Int) (e : Ending) (w' : World) : Prop := ∃ A c, e = .returned (.tuple #[.agg (rpC r A c), .int .i64 E]) ∧ SlF w' A r.f.length c r.f ∧ FreshA w A ∧ Below w.heap.size w w'
theorem add_blk (ad : Addr) (k : Nat) : (ad.add k).block = ad.block := by
  unfold Addr.add
  split <;> rfl
theorem SlF.setRow {w : World} {A : Option Addr} {n c : Nat} {L : List Fd} (h : SlF w A n c L) {g : Nat} (hg : ∀ ad, A = some ad → ad.block ≠ g) (cs : Array Value) : SlF (w.setRow g cs) A n c L :=
  ⟨h.len, h.cap, h.cm, h.nil, fun hn => by
    obtain ⟨ad, e, hc⟩ := h.at_ hn
    have hne := hg ad e
    exact ⟨ad, e, fun j x hx => ⟨by rw [cell_setRow_other _ _ _ _ (by rw [add_blk]; exact hne)]; exact (hc j x hx).1, by rw [cell_setRow_other _ _ _ _ (by rw [add_blk]; exact hne)]; exact (hc j x hx).2⟩⟩, h.sz⟩

end Go.Proofs.YthhlcecojeaalaaDoor
end

/-
  Contracts of the reference's before, single (layer 15).
-/
section
namespace Go.Proofs.YthhlcecojeaalaaDoor
open Go.RowKit
set_option linter.unusedSimpArgs false

theorem sgl_step (s : ByteArray) (k : Nat) (h : k < s.size) (p : Bool) : sglL p (s.data.toList.drop k) = if blkU s[k] then (if p then sglL true (s.data.toList.drop (k + 1)) else 32 :: sglL true (s.data.toList.drop (k + 1))) else s[k] :: sglL false (s.data.toList.drop (k + 1)) := by
  rw [drop_at s k h]; rfl
theorem sgl_le : ∀ (l : List UInt8) (p : Bool), (sglL p l).length ≤ l.length
  | [], _ => Nat.le_refl _
  | c :: r, p => by
    unfold sglL
    have h1 := sgl_le r true
    have h2 := sgl_le r false
    repeat' split
    all_goals simp only [List.length_cons]; omega
theorem sbyte (c : UInt8) : (blkU c = true ∧ c = 32 ∧ ((c.toNat : Int) != 32) = false) ∨ (blkU c = true ∧ ((c.toNat : Int) != 32) = true ∧ ((c.toNat : Int) != 9) = false) ∨ (blkU c = false ∧ ((c.toNat : Int) != 32) = true ∧ ((c.toNat : Int) != 9) = true) := by
  have hD : blkU c = (((c.toNat : Int) == 32) || ((c.toNat : Int) == 9)) := rfl
  have h32 : ((c.toNat : Int) == 32) = true → c = 32 := fun h => by
    rw [beq_iff_eq] at h
    exact UInt8.toNat_inj.1 (by show c.toNat = 32; omega)
  rw [hD]
  simp only [bne]
  cases h1 : ((c.toNat : Int) == 32) with
  | true => exact .inl ⟨rfl, h32 h1, rfl⟩
  | false =>
    cases h2 : ((c.toNat : Int) == 9) with
    | true => exact .inr (.inl ⟨rfl, rfl, rfl⟩)
    | false => exact .inr (.inr ⟨rfl, rfl, rfl⟩)

theorem prv_step (s : ByteArray) (k : Nat) (h : k < s.size) {p : Bool} (hb : blkU s[k] = p) : ∀ j (_ : j < s.size), k + 1 = j + 1 → p = blkU s[j] := fun j g e => by
  have e2 : j = k := by omega
  subst e2
  exact hb.symm
set_option maxHeartbeats 4000000 in
set_option maxRecDepth 100000 in
theorem r_single (s : ByteArray) (hs : s.size ≤ 100000000) (w : World) :
    Calls Tryd.prog 70 #[.string s] w fun e w' => e = .returned (.string (mkS (sglL false s.data.toList))) ∧ w = w' := by
  generalize hD : sglL false s.data.toList = D
  have HD := Lib.hid hD
  clear hD
  go_enter Tryd.func70, Tryd.ntmps70
  go_wp2_with fail
  go_loop [3, 4] (fun t i => ∃ (k : Nat) (P : ByteArray) (p : Bool), k ≤ s.size ∧ P.size ≤ k ∧ t = .string P ∧ i = .int .i64 k ∧ (k = 0 → p = false) ∧ (∀ j (h : j < s.size), k = j + 1 → p = blkU s[j]) ∧ Hid (D = P.data.toList ++ sglL p (s.data.toList.drop k))) (fun _ i => s.size - (intOf i).toNat)
  case atStart => exact ⟨0, ⟨#[]⟩, false, Nat.zero_le _, Nat.zero_le _, rfl, rfl, fun _ => rfl, fun _ _ h => absurd h (by omega), HD.out.symm⟩
  case round =>
    obtain ⟨k, P, p, hk, hP, rfl, rfl, hp0, hp1, hf⟩ := hrel
    by_cases hlt : k < s.size
    · have hi0 : (0 : Int) ≤ (k : Int) := by omega
      have hi1 : (k : Int) < (s.size : Int) := by omega
      have hx1 : (k : Int) + 1 ≤ (s.size : Int) := by omega
      have hx0 : (k : Int) ≤ (k : Int) + 1 := by omega
      have hst := sgl_step s k hlt p
      have hPi : (P.size : Int) ≤ 100000000 := by omega
      rcases sbyte s[k] with ⟨hb, _, e1⟩ | ⟨hb, e1, e2⟩ | ⟨hb, e1, e2⟩
      · rcases Nat.eq_zero_or_pos k with h0 | h0
        · have hpf := hp0 h0
          have HN : Hid (D = (P ++ (⟨#[32]⟩ : ByteArray)).data.toList ++ sglL true (s.data.toList.drop (k + 1))) := by
            show _ = _
            rw [hf.out, hst, if_pos hb, hpf, if_neg (by decide), append_list]; simp
          have hsz : (P ++ (⟨#[32]⟩ : ByteArray)).size ≤ k + 1 := by rw [ByteArray.size_append]; show P.size + 1 ≤ _; omega
          subst h0
          clear hf hst hp0 hp1
          go_wp2_with fail
          go_round
          case rel => exact ⟨0 + 1, _, true, by omega, hsz, rfl, by go_num, (fun h => absurd h (by omega)), prv_step s _ (by omega) hb, HN⟩
          case measure => simp [intOf]; omega
        · obtain ⟨j, rfl⟩ : ∃ j, k = j + 1 := ⟨k - 1, by omega⟩
          have hjl : j < s.size := by omega
          have hpj := hp1 j hjl rfl
          have hk0 : (((j + 1 : Nat) : Int) == 0) = false := by rw [beq_eq_false_iff_ne]; omega
          have hk1 : ((j + 1 : Nat) : Int) - 1 = (j : Int) := by omega
          have hj0 : (0 : Int) ≤ (j : Int) := by omega
          have hj1 : (j : Int) < (s.size : Int) := by omega
          rcases sbyte s[j] with ⟨qb, _, q1⟩ | ⟨qb, q1, q2⟩ | ⟨qb, q1, q2⟩
          · have hpt : p = true := hpj.trans qb
            have HN : Hid (D = P.data.toList ++ sglL true (s.data.toList.drop (j + 1 + 1))) := by
              show _ = _
              rw [hf.out, hst, if_pos hb, hpt, if_pos rfl]
            have hsz : P.size ≤ j + 1 + 1 := by omega
            clear hf hst hp0 hp1
            go_wp2_with fail
            go_round
            case rel => exact ⟨j + 1 + 1, _, true, by omega, hsz, rfl, by go_num, (fun h => absurd h (by omega)), prv_step s _ (by omega) hb, HN⟩
            case measure => simp [intOf]; omega
          · have hpt : p = true := hpj.trans qb
            have HN : Hid (D = P.data.toList ++ sglL true (s.data.toList.drop (j + 1 + 1))) := by
              show _ = _
              rw [hf.out, hst, if_pos hb, hpt, if_pos rfl]
            have hsz : P.size ≤ j + 1 + 1 := by omega
            clear hf hst hp0 hp1
            go_wp2_with fail
            go_round
            case rel => exact ⟨j + 1 + 1, _, true, by omega, hsz, rfl, by go_num, (fun h => absurd h (by omega)), prv_step s _ (by omega) hb, HN⟩
            case measure => simp [intOf]; omega
          · have hpf : p = false := hpj.trans qb
            have HN : Hid (D = (P ++ (⟨#[32]⟩ : ByteArray)).data.toList ++ sglL true (s.data.toList.drop (j + 1 + 1))) := by
              show _ = _
              rw [hf.out, hst, if_pos hb, hpf, if_neg (by decide), append_list]; simp
            have hsz : (P ++ (⟨#[32]⟩ : ByteArray)).size ≤ j + 1 + 1 := by rw [ByteArray.size_append]; show P.size + 1 ≤ _; omega
            clear hf hst hp0 hp1
            go_wp2_with fail
            go_round
            case rel => exact ⟨j + 1 + 1, _, true, by omega, hsz, rfl, by go_num, (fun h => absurd h (by omega)), prv_step s _ (by omega) hb, HN⟩
            case measure => simp [intOf]; omega
      · rcases Nat.eq_zero_or_pos k with h0 | h0
        · have hpf := hp0 h0
          have HN : Hid (D = (P ++ (⟨#[32]⟩ : ByteArray)).data.toList ++ sglL true (s.data.toList.drop (k + 1))) := by
            show _ = _
            rw [hf.out, hst, if_pos hb, hpf, if_neg (by decide), append_list]; simp
          have hsz : (P ++ (⟨#[32]⟩ : ByteArray)).size ≤ k + 1 := by rw [ByteArray.size_append]; show P.size + 1 ≤ _; omega
          subst h0
          clear hf hst hp0 hp1
          go_wp2_with fail
          go_round
          case rel => exact ⟨0 + 1, _, true, by omega, hsz, rfl, by go_num, (fun h => absurd h (by omega)), prv_step s _ (by omega) hb, HN⟩
          case measure => simp [intOf]; omega
        · obtain ⟨j, rfl⟩ : ∃ j, k = j + 1 := ⟨k - 1, by omega⟩
          have hjl : j < s.size := by omega
          have hpj := hp1 j hjl rfl
          have hk0 : (((j + 1 : Nat) : Int) == 0) = false := by rw [beq_eq_false_iff_ne]; omega
          have hk1 : ((j + 1 : Nat) : Int) - 1 = (j : Int) := by omega
          have hj0 : (0 : Int) ≤ (j : Int) := by omega
          have hj1 : (j : Int) < (s.size : Int) := by omega
          rcases sbyte s[j] with ⟨qb, _, q1⟩ | ⟨qb, q1, q2⟩ | ⟨qb, q1, q2⟩
          · have hpt : p = true := hpj.trans qb
            have HN : Hid (D = P.data.toList ++ sglL true (s.data.toList.drop (j + 1 + 1))) := by
              show _ = _
              rw [hf.out, hst, if_pos hb, hpt, if_pos rfl]
            have hsz : P.size ≤ j + 1 + 1 := by omega
            clear hf hst hp0 hp1
            go_wp2_with fail
            go_round
            case rel => exact ⟨j + 1 + 1, _, true, by omega, hsz, rfl, by go_num, (fun h => absurd h (by omega)), prv_step s _ (by omega) hb, HN⟩
            case measure => simp [intOf]; omega
          · have hpt : p = true := hpj.trans qb
            have HN : Hid (D = P.data.toList ++ sglL true (s.data.toList.drop (j + 1 + 1))) := by
              show _ = _
              rw [hf.out, hst, if_pos hb, hpt, if_pos rfl]
            have hsz : P.size ≤ j + 1 + 1 := by omega
            clear hf hst hp0 hp1
            go_wp2_with fail
            go_round
            case rel => exact ⟨j + 1 + 1, _, true, by omega, hsz, rfl, by go_num, (fun h => absurd h (by omega)), prv_step s _ (by omega) hb, HN⟩
            case measure => simp [intOf]; omega
          · have hpf : p = false := hpj.trans qb
            have HN : Hid (D = (P ++ (⟨#[32]⟩ : ByteArray)).data.toList ++ sglL true (s.data.toList.drop (j + 1 + 1))) := by
              show _ = _
              rw [hf.out, hst, if_pos hb, hpf, if_neg (by decide), append_list]; simp
            have hsz : (P ++ (⟨#[32]⟩ : ByteArray)).size ≤ j + 1 + 1 := by rw [ByteArray.size_append]; show P.size + 1 ≤ _; omega
            clear hf hst hp0 hp1
            go_wp2_with fail
            go_round
            case rel => exact ⟨j + 1 + 1, _, true, by omega, hsz, rfl, by go_num, (fun h => absurd h (by omega)), prv_step s _ (by omega) hb, HN⟩
            case measure => simp [intOf]; omega
      · have HN : Hid (D = (P ++ s.extract k (k + 1)).data.toList ++ sglL false (s.data.toList.drop (k + 1))) := by
          show _ = _
          rw [hf.out, hst, if_neg (by rw [hb]; decide), ext_one s P k hlt]; simp
        have hsz : (P ++ s.extract k (k + 1)).size ≤ k + 1 := by rw [xt_size s P k (k + 1) (by omega) (by omega)]; omega
        clear hf hst
        go_wp2_with fail
        go_round
        case rel => exact ⟨k + 1, _, false, by omega, hsz, rfl, by go_num, (fun h => absurd h (by omega)), prv_step s _ (by omega) hb, HN⟩
        case measure => simp [intOf]; omega
    · have HN : Hid (mkS D = P) := by
        show _ = _
        rw [hf.out, List.drop_eq_nil_of_le (by rw [← Lib.size_eq]; omega)]
        show mkS (P.data.toList ++ []) = P
        rw [List.append_nil, mkS_self]
      have hi1 : ¬ (k : Int) < (s.size : Int) := by omega
      clear hf
      go_wp2_with fail
      go_ret
      exact ⟨by rw [HN.out]; rfl, rfl⟩

end Go.Proofs.YthhlcecojeaalaaDoor
end

/-
  Contracts of the reference's Least, has, least, greatest (layer 13).
-/
section
namespace Go.Proofs.YthhlcecojeaalaaDoor
open Go.RowKit

/-! ### Names in a slice -/
def hsN (N : List (List UInt8)) (nm : ByteArray) : Bool := N.any fun x => x == nm.data.toList
/-! ### The least and the greatest number of a name -/
end Go.Proofs.YthhlcecojeaalaaDoor
end

/-
  Contracts of package vary's blank, squeeze.
-/
section
namespace Go.Proofs.YthhlcecojeaalaaDoor
open Go.RowKit
set_option linter.unusedSimpArgs false

theorem vblank_any (c : UInt8) (w : World) : Calls Tryd.prog 80 #[.int .u8 (c.toNat : Int)] w fun e w' => e = .returned (.bool (blkU c)) ∧ w = w' := by
  have hD : blkU c = (((c.toNat : Int) == 32) || ((c.toNat : Int) == 9)) := rfl
  rw [hD]
  generalize (c.toNat : Int) = n
  cases h1 : (n == 32) with
  | true =>
    go_enter Tryd.func80, Tryd.ntmps80
    go_wp2_with fail
    go_ret
    exact ⟨rfl, rfl⟩
  | false =>
    cases h2 : (n == 9)
    all_goals
      go_enter Tryd.func80, Tryd.ntmps80
      go_wp2_with fail
      go_ret
      exact ⟨rfl, rfl⟩

set_option maxHeartbeats 8000000 in
set_option maxRecDepth 100000 in
theorem squeeze_any (s : ByteArray) (hs : s.size ≤ 100000000) (w : World) :
    Calls Tryd.prog 65 #[.string s] w fun e w' => e = .returned (.string (mkS (sglL false s.data.toList))) ∧ Below w.heap.size w w' := by
  generalize hD : sglL false s.data.toList = D
  have HD := Lib.hid hD
  clear hD
  go_enter Tryd.func65, Tryd.ntmps65
  go_wp2_with (at_make; refine wpList_make8 rfl _ _ _ rfl w.heap.size 5 Tryd.underlying37 (by kernel_rfl) _ _ _ s.size rfl rfl (by omega) (by omega) (Nat.le_refl _) w (Below.refl _ _) ?_; intro v1 w1 ho1 hb1 hz1)
  go_loopw [3, 10] (fun v i wr => ∃ (k : Nat) (X : List UInt8) (p : Bool), k ≤ s.size ∧ X.length ≤ k ∧ i = .int .i64 k ∧ (k = 0 → p = false) ∧ (∀ j (h : j < s.size), k = j + 1 → p = blkU s[j]) ∧ Hid (D = X ++ sglL p (s.data.toList.drop k)) ∧ Hid (Own8 wr w.heap.size 5 v X) ∧ Hid (Below w.heap.size w wr)) (fun _ i _ => s.size - (intOf i).toNat)
  case atStart => exact ⟨0, [], false, Nat.zero_le _, Nat.zero_le _, rfl, fun _ => rfl, fun _ _ h => absurd h (by omega), HD.out.symm, ho1, hb1⟩
  case round =>
    clear HD ho1 hb1 hz1
    obtain ⟨k, X, p, hk, hX, rfl, hp0, hp1, hf, HO, HB⟩ := hrel
    have hzr := HB.out.size
    by_cases hlt : k < s.size
    · have hi0 : (0 : Int) ≤ (k : Int) := by omega
      have hi1 : (k : Int) < (s.size : Int) := by omega
      have hst := sgl_step s k hlt p
      have CB := Lib.hid (fun W => vblank_any s[k] W)
      have hpn := fun q (hb : blkU s[k] = q) => prv_step s k hlt hb
      cases hb : blkU s[k] with
      | false =>
        rw [hb] at CB
        have hpn := hpn false hb
        obtain ⟨Z, hZ⟩ : ∃ Z, Z = X ++ [s[k]] := ⟨_, rfl⟩
        have HXZ : Hid (X ++ [s[k]] = Z) := hZ.symm
        have HN : Hid (D = Z ++ sglL false (s.data.toList.drop (k + 1))) := by
          show _ = _
          rw [hf.out, hst, hb, hZ]; simp
        have hZk : Z.length ≤ k + 1 := by rw [hZ]; simp; omega
        clear hf hst hp0 hp1 hb hZ
        go_wp2_with fail
        refine (CB.out _).mono ?_
        rintro e w2 ⟨rfl, rfl⟩
        go_wp2_with (at_builtin; refine wpList_append_as rfl _ _ _ rfl w.heap.size 5 Tryd.underlying37 (by kernel_rfl) _ rfl X (HO.out.alloc _) _ _ _ rfl [s[k]] (Sl8.one _ _ _ rfl) Z HXZ (by simp; omega) (by simp; omega) w (HB.out.alloc hzr _) ?_; intro v1 w1 ho1 hb1 hz1)
        go_roundw
        case rel => exact ⟨k + 1, Z, false, by omega, hZk, by go_num, (fun h => absurd h (by omega)), hpn, HN, ho1, hb1⟩
        case measure => simp [intOf]; omega
      | true =>
        rw [hb] at CB
        have hpn := hpn true hb
        rcases Nat.eq_zero_or_pos k with h0 | h0
        · have hpf := hp0 h0
          obtain ⟨Z, hZ⟩ : ∃ Z, Z = X ++ [(32 : UInt8)] := ⟨_, rfl⟩
          have HXZ : Hid (X ++ [(32 : UInt8)] = Z) := hZ.symm
          have HN : Hid (D = Z ++ sglL true (s.data.toList.drop (k + 1))) := by
            show _ = _
            rw [hf.out, hst, if_pos hb, hpf, if_neg (by decide), hZ]; simp
          have hZk : Z.length ≤ k + 1 := by rw [hZ]; simp; omega
          have hk0 : ((k : Int) == 0) = true := by rw [beq_iff_eq]; omega
          clear hf hst hp0 hp1 hb hZ hpf h0
          go_wp2_with fail
          refine (CB.out _).mono ?_
          rintro e w2 ⟨rfl, rfl⟩
          go_wp2_with (at_builtin; refine wpList_append_as rfl _ _ _ rfl w.heap.size 5 Tryd.underlying37 (by kernel_rfl) _ rfl X (HO.out.alloc _) _ _ _ rfl [(32 : UInt8)] (Sl8.one _ _ _ rfl) Z HXZ (by simp; omega) (by simp; omega) w (HB.out.alloc hzr _) ?_; intro v1 w1 ho1 hb1 hz1)
          go_roundw
          case rel => exact ⟨k + 1, Z, true, by omega, hZk, by go_num, (fun h => absurd h (by omega)), hpn, HN, ho1, hb1⟩
          case measure => simp [intOf]; omega
        · obtain ⟨j, rfl⟩ : ∃ j, k = j + 1 := ⟨k - 1, by omega⟩
          have hjl : j < s.size := by omega
          have hpj := hp1 j hjl rfl
          have hk0 : (((j + 1 : Nat) : Int) == 0) = false := by rw [beq_eq_false_iff_ne]; omega
          have hk1 : ((j + 1 : Nat) : Int) - 1 = (j : Int) := by omega
          have hj0 : (0 : Int) ≤ (j : Int) := by omega
          have hj1 : (j : Int) < (s.size : Int) := by omega
          have CJ := Lib.hid (fun W => vblank_any s[j] W)
          cases qb : blkU s[j] with
          | true =>
            have hpt : p = true := hpj.trans qb
            rw [qb] at CJ
            have HN : Hid (D = X ++ sglL true (s.data.toList.drop (j + 1 + 1))) := by
              show _ = _
              rw [hf.out, hst, if_pos hb, hpt, if_pos rfl]
            have hXk : X.length ≤ j + 1 + 1 := by omega
            clear hf hst hp0 hp1 hb hpj qb hpt
            go_wp2_with fail
            refine (CB.out _).mono ?_
            rintro e w2 ⟨rfl, rfl⟩
            go_wp2_with fail
            refine (CJ.out _).mono ?_
            rintro e w2 ⟨rfl, rfl⟩
            go_wp2_with fail
            go_roundw
            case rel => exact ⟨j + 1 + 1, X, true, by omega, hXk, by go_num, (fun h => absurd h (by omega)), hpn, HN, HO.out, HB.out⟩
            case measure => simp [intOf]; omega
          | false =>
            have hpt : p = false := hpj.trans qb
            rw [qb] at CJ
            obtain ⟨Z, hZ⟩ : ∃ Z, Z = X ++ [(32 : UInt8)] := ⟨_, rfl⟩
            have HXZ : Hid (X ++ [(32 : UInt8)] = Z) := hZ.symm
            have HN : Hid (D = Z ++ sglL true (s.data.toList.drop (j + 1 + 1))) := by
              show _ = _
              rw [hf.out, hst, if_pos hb, hpt, if_neg (by decide), hZ]; simp
            have hZk : Z.length ≤ j + 1 + 1 := by rw [hZ]; simp; omega
            clear hf hst hp0 hp1 hb hpj qb hpt hZ
            go_wp2_with fail
            refine (CB.out _).mono ?_
            rintro e w2 ⟨rfl, rfl⟩
            go_wp2_with fail
            refine (CJ.out _).mono ?_
            rintro e w2 ⟨rfl, rfl⟩
            go_wp2_with (at_builtin; refine wpList_append_as rfl _ _ _ rfl w.heap.size 5 Tryd.underlying37 (by kernel_rfl) _ rfl X (HO.out.alloc _) _ _ _ rfl [(32 : UInt8)] (Sl8.one _ _ _ rfl) Z HXZ (by simp; omega) (by simp; omega) w (HB.out.alloc hzr _) ?_; intro v1 w1 ho1 hb1 hz1)
            go_roundw
            case rel => exact ⟨j + 1 + 1, Z, true, by omega, hZk, by go_num, (fun h => absurd h (by omega)), hpn, HN, ho1, hb1⟩
            case measure => simp [intOf]; omega
    · have HX : Hid (D = X) := by
        show _ = _
        rw [hf.out, List.drop_eq_nil_of_le (by rw [← Lib.size_eq]; omega)]
        exact List.append_nil _
      have hi1 : ¬ (k : Int) < (s.size : Int) := by omega
      obtain ⟨A1, c1, rfl, hs1⟩ := HO.out.sl8
      have kc := run_str Tryd.prog wr 37 5 Tryd.underlying37 Tryd.underlying5 hs1 9 Tryd.underlying9
      clear hf
      go_wp2
      go_ret
      exact ⟨by rw [HX.out]; rfl, HB.out⟩

end Go.Proofs.YthhlcecojeaalaaDoor
end
