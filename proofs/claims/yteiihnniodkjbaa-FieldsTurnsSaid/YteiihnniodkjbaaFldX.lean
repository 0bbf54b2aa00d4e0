/-
  The page's example (heads) of layer 9.
-/
import Derived.Test.YteiihnniodkjbaaFldU
namespace Go.Proofs.Yteiihnniodkjbaa
open Go.RowKit

theorem SlF.lit {w : World} {g t : Nat} {fr : Nat × Nat} {cs : Array Value} (L : List Fd) (hg : w.heap[g]? = some (.cells cs t fr)) (hcs : cs = (fdC L).toArray) (hm : L.length ≤ maxLen) (hz : ∀ x ∈ L, x.1.size ≤ maxLen ∧ x.2.size ≤ maxLen) : SlF w (some ⟨g, 0, none⟩) L.length L.length L := by
  subst hcs
  refine ⟨rfl, Nat.le_refl _, hm, (fun e => by cases e), fun _ => ⟨_, rfl, fun j x hx => ?_⟩, hz⟩
  obtain ⟨h0, h1⟩ := fdC_at L j x hx
  rw [addr_add, addr_add, cell_of_row _ _ _ _ _ _ hg, cell_of_row _ _ _ _ _ _ hg]
  exact ⟨by simpa using h0, by simpa using h1⟩

/-- Few, as the laws call it. -/
theorem few_70 (b : Nat) (q : Int) (hq : q = (b : Int)) (A : Option Addr) (n c : Nat) (L : List Fd) (w : World) (h : SlF w A n c L) :
    Calls Try.prog 8 #[.slice A n c, .int .i64 70, .int .i64 q] w fun e w' => e = .returned (.bool (fewB L 70 b)) ∧ w = w' := by
  subst hq
  exact rf_few A n c 70 b L w h (by decide)
theorem few_1 (b : Nat) (q : Int) (hq : q = (b : Int)) (A : Option Addr) (n c : Nat) (L : List Fd) (w : World) (h : SlF w A n c L) :
    Calls Try.prog 8 #[.slice A n c, .int .i64 1, .int .i64 q] w fun e w' => e = .returned (.bool (fewB L 1 b)) ∧ w = w' := by
  subst hq
  exact rf_few A n c 1 b L w h (by decide)
theorem few_bd {L : List Fd} {m b : Nat} (h : fewB L m b = true) (hb : b ≤ 1000000000) : ∀ x ∈ L, Bd x := fun x hx => by
  have := (few_yes h).2 x hx
  exact ⟨by omega, by omega⟩

def exV : ByteArray := ⟨#[86, 97, 114, 121, 58, 32, 32, 97, 44, 32, 66, 32]⟩
def exG : ByteArray := ⟨#[97, 32, 98, 58, 32, 99]⟩
def exF : Fd := (⟨#[86, 97, 114, 121]⟩, ⟨#[97, 44, 32, 66]⟩)
def exL : List Fd := [(⟨#[97]⟩, ⟨#[49]⟩), (⟨#[98]⟩, ⟨#[120, 44, 32, 89]⟩), (⟨#[65]⟩, ⟨#[50]⟩)]
theorem exV_ok : flF exV = exF ∧ flX exV = 0 := by constructor <;> kernel_rfl
theorem exG_ok : flX exG = 21 := by kernel_rfl
theorem exL_get : fdGet exL ⟨#[65]⟩ = ⟨#[49, 44, 32, 50]⟩ ∧ fdGot exL ⟨#[65]⟩ = true := by constructor <;> kernel_rfl
theorem exL_drop : fdDrop exL [[97]] = [(⟨#[98]⟩, ⟨#[120, 44, 32, 89]⟩)] := by kernel_rfl
theorem exL_set : fdSet exL (⟨#[65]⟩, ⟨#[51]⟩) = [(⟨#[65]⟩, ⟨#[51]⟩), (⟨#[98]⟩, ⟨#[120, 44, 32, 89]⟩)] := by kernel_rfl
theorem exL_has : fdHas exL ⟨#[66]⟩ ⟨#[121]⟩ = true := by kernel_rfl
theorem exL_chk : chkN exL = 0 := by kernel_rfl
theorem exF_line : lineS exF = ⟨#[86, 97, 114, 121, 58, 32, 97, 44, 32, 66]⟩ := by kernel_rfl
theorem exL_all : (fdAll exL ⟨#[97]⟩).length = 2 := by kernel_rfl
theorem exL_same : bth exL exL = true := by kernel_rfl
theorem exL_bd : ∀ x ∈ exL, Bd x := by
  intro x hx
  simp only [exL, List.mem_cons, List.not_mem_nil, or_false] at hx
  rcases hx with rfl | rfl | rfl <;> exact ⟨by decide, by decide⟩
theorem exL_join : (Lib.join (fdAll exL ⟨#[65]⟩) [44, 32]).length ≤ 1000000000000 := by
  rw [show (Lib.join (fdAll exL ⟨#[65]⟩) [44, 32]).length = 4 by kernel_rfl]; decide

set_option maxHeartbeats 8000000 in
set_option maxRecDepth 100000 in
theorem ex9_any (w : World) : Calls Try.prog 9 #[] w fun e w' => e = .returned (.bool true) ∧ Below w.heap.size w w' := by
  have c1 := fun W => parse_any exV W (by decide)
  rw [exV_ok.1, exV_ok.2] at c1
  have c2 := fun W => parse_any exG W (by decide)
  rw [exG_ok] at c2
  generalize flF exG = G at *
  have c3 := fun A W (h : SlF W A 3 3 exL) => getF_any A 3 3 exL ⟨#[65]⟩ W h (by decide) exL_bd (by decide) exL_join
  rw [exL_get.1, exL_get.2] at c3
  have hn1 : ∀ x ∈ ([[97]] : List (List UInt8)), x.length ≤ maxLen := fun x hx => by
    simp only [List.mem_singleton] at hx
    subst hx
    decide
  have c4 := fun A B W (h : SlF W A 3 3 exL) (h' : SlS W B 1 1 [[97]]) => drop_any A B 3 3 1 1 exL [[97]] W h (by decide) exL_bd h' hn1 (by decide)
  rw [exL_drop] at c4
  have c5 := fun A W (h : SlF W A 3 3 exL) => setF_any A 3 3 exL (⟨#[65]⟩, ⟨#[51]⟩) W h (by decide) exL_bd ⟨by decide, by decide⟩
  rw [exL_set] at c5
  have c6 := fun A W (h : SlF W A 3 3 exL) => hasF_any A 3 3 exL ⟨#[66]⟩ ⟨#[121]⟩ W h (by decide) exL_bd (by decide) (by decide)
  rw [exL_has] at c6
  have c7 := fun A W (h : SlF W A 3 3 exL) => chkF_any A 3 3 exL W h (by decide) exL_bd
  rw [exL_chk] at c7
  have c8 := fun W => line_any exF (by decide) W
  rw [exF_line] at c8
  have c9 := fun A W (h : SlF W A 3 3 exL) => all_any A 3 3 exL ⟨#[97]⟩ W h (by decide) exL_bd (by decide)
  have hal := exL_all
  generalize fdAll exL ⟨#[97]⟩ = V at *
  have c10 := fun A W (h : SlF W A 3 3 exL) => same_fields A A 3 3 3 3 exL exL W h h (by decide) exL_bd exL_bd
  rw [exL_same] at c10
  have hsz : ∀ x ∈ exL, x.1.size ≤ maxLen ∧ x.2.size ≤ maxLen := fun x hx => ⟨(exL_bd x hx).one, (exL_bd x hx).two⟩
  unfold fdV exF at *
  unfold Vals at c9
  have C1 := Lib.hid c1
  have C2 := Lib.hid c2
  have C3 := Lib.hid c3
  have C4 := Lib.hid c4
  have C5 := Lib.hid c5
  have C6 := Lib.hid c6
  have C7 := Lib.hid c7
  have C8 := Lib.hid c8
  have C9 := Lib.hid c9
  have C10 := Lib.hid c10
  have HZ := Lib.hid hsz
  have HAL := Lib.hid hal
  clear c1 c2 c3 c4 c5 c6 c7 c8 c9 c10 hsz hn1 hal
  unfold exV exG at *
  go_enter Try.func9, Try.ntmps9
  go_wp2_with fail
  refine (C1.out _).mono ?_
  rintro e w1 ⟨rfl, hb1⟩
  have HB1 := Lib.hid hb1
  clear hb1
  go_wp2_with fail
  refine (C2.out _).mono ?_
  rintro e w2 ⟨rfl, hb2⟩
  have HF := Lib.hid (zero_at hb2)
  have HB2 := Lib.hid (below_then HB1.out (zero_then hb2))
  clear hb2
  have hl3 : SlF ((w2.alloc (.cells #[.string G.fst, .string G.snd] 26)).alloc (.cells #[.string ⟨#[97]⟩, .string ⟨#[49]⟩, .string ⟨#[98]⟩, .string ⟨#[120, 44, 32, 89]⟩, .string ⟨#[65]⟩, .string ⟨#[50]⟩] 26)) (some ⟨w2.heap.size + 1, 0, none⟩) 3 3 exL := SlF.lit exL (heap_alloc2_new w2 _ _) rfl (by decide) HZ.out
  have HL3 := Lib.hid hl3
  have HF3 := Lib.hid (zero_more (o' := .cells #[.string ⟨#[97]⟩, .string ⟨#[49]⟩, .string ⟨#[98]⟩, .string ⟨#[120, 44, 32, 89]⟩, .string ⟨#[65]⟩, .string ⟨#[50]⟩] 26) (zero_more (o' := .cells #[.string G.fst, .string G.snd] 26) HF.out))
  have HB3 := Lib.hid ((HB2.out.alloc HB2.out.size (.cells #[.string G.fst, .string G.snd] 26)).alloc (by have := HB2.out.size; simp; omega) (.cells #[.string ⟨#[97]⟩, .string ⟨#[49]⟩, .string ⟨#[98]⟩, .string ⟨#[120, 44, 32, 89]⟩, .string ⟨#[65]⟩, .string ⟨#[50]⟩] 26))
  clear hl3
  go_wp2_with fail
  refine (C3.out _ _ HL3.out).mono ?_
  rintro e w3 ⟨rfl, hb3⟩
  have HL4 := Lib.hid (HL3.out.below hb3)
  have HF4 := Lib.hid (zero_still hb3 HF3.out)
  have HB4 := Lib.hid (below_then HB3.out hb3)
  clear hb3 HL3 HF3 HB3
  have hs5 : SlS (w3.alloc (.cells #[.string ⟨#[97]⟩] 9)) (some ⟨w3.heap.size, 0, none⟩) 1 1 [[97]] := SlS.text w3 9 ⟨#[97]⟩
  have HS5 := Lib.hid hs5
  have HL5 := Lib.hid (HL4.out.alloc (.cells #[.string ⟨#[97]⟩] 9))
  have HF5 := Lib.hid (zero_more (o' := .cells #[.string ⟨#[97]⟩] 9) HF4.out)
  have HB5 := Lib.hid (HB4.out.alloc HB4.out.size (.cells #[.string ⟨#[97]⟩] 9))
  clear hs5
  go_wp2_with fail
  refine (C4.out _ _ _ HL5.out HS5.out).mono ?_
  rintro e w4 ⟨v4, rfl, ho4, hb4⟩
  obtain ⟨A4, d4, rfl, hd4⟩ := ho4.slf (by
    intro x hx
    simp only [List.mem_singleton] at hx
    subst hx
    exact ⟨by decide, by decide⟩)
  have HD6 := Lib.hid hd4
  have HL6 := Lib.hid (HL5.out.below hb4)
  have HF6 := Lib.hid (zero_still hb4 HF5.out)
  have HB6 := Lib.hid (below_then HB5.out hb4)
  clear hb4 ho4 hd4 HL4 HF4 HB4 HS5 HL5 HF5 HB5
  go_wp2_with fail
  refine (C5.out _ _ HL6.out).mono ?_
  rintro e w5 ⟨v5, rfl, ho5, hb5⟩
  obtain ⟨A5, d5, rfl, hd5⟩ := ho5.slf (by
    intro x hx
    simp only [List.mem_cons, List.not_mem_nil, or_false] at hx
    rcases hx with rfl | rfl <;> exact ⟨by decide, by decide⟩)
  have HS7 := Lib.hid hd5
  have HD7 := Lib.hid (HD6.out.below hb5)
  have HL7 := Lib.hid (HL6.out.below hb5)
  have HF7 := Lib.hid (zero_still hb5 HF6.out)
  have HB7 := Lib.hid (below_then HB6.out hb5)
  clear hb5 ho5 hd5 HD6 HL6 HF6 HB6
  obtain ⟨ad, hA4, hdc⟩ := HD7.out.at_ (by decide)
  obtain ⟨ae, hA5, hsc⟩ := HS7.out.at_ (by decide)
  subst hA4 hA5
  have d0 := (hdc 0 _ rfl).1
  have s1 := (hsc 0 _ rfl).2
  have s1' := fd_snd s1
  simp only [Nat.zero_mul, Addr.add_zero'] at d0 s1'
  obtain ⟨f0, f1⟩ := zero_two HF7.out
  clear hdc hsc s1
  go_wp2_with fail
  refine (C6.out _ _ HL7.out).mono ?_
  rintro e w6 ⟨rfl, hb6⟩
  have HL8 := Lib.hid (HL7.out.below hb6)
  have HF8 := Lib.hid (zero_still hb6 HF7.out)
  have HB8 := Lib.hid (below_then HB7.out hb6)
  clear hb6 HL7 HF7 HB7 d0 s1' f0 f1 HD7 HS7
  go_wp2_with fail
  refine (C7.out _ _ HL8.out).mono ?_
  rintro e w7 ⟨rfl, hb7⟩
  have HL9 := Lib.hid (HL8.out.below hb7)
  have HB9 := Lib.hid (below_then HB8.out hb7)
  obtain ⟨f0, f1⟩ := zero_two (zero_still hb7 HF8.out)
  clear hb7 HL8 HF8 HB8
  go_wp2_with fail
  refine (C8.out _).mono ?_
  rintro e w8 ⟨rfl, hb8⟩
  have HL10 := Lib.hid (HL9.out.below hb8)
  have HB10 := Lib.hid (below_then HB9.out hb8)
  clear hb8 HL9 HB9 f0 f1
  go_wp2_with fail
  refine (C9.out _ _ HL10.out).mono ?_
  rintro e w9 ⟨A9, c9, rfl, _, _, hb9⟩
  have HL11 := Lib.hid (HL10.out.below hb9)
  have HB11 := Lib.hid (below_then HB10.out hb9)
  clear hb9 HL10 HB10
  rw [HAL.out]
  go_wp2_with fail
  refine (C10.out _ _ HL11.out).mono ?_
  rintro e w10 ⟨rfl, hb10⟩
  have HB12 := Lib.hid (below_then HB11.out hb10)
  clear hb10 HL11 HB11
  go_wp2_with fail
  go_ret
  exact ⟨rfl, HB12.out⟩

end Go.Proofs.Yteiihnniodkjbaa
