
/-
  attrs: what a value has said it says again (pure).
-/
import Derived.Test.YteofbpdogmajoaaGreatDoorZl
import Derived.Test.YteofbpdogmajoaaGreatDoorZud
import Derived.Test.YteofbpdogmajoaaGreatDoorZyv
namespace Go.Proofs.YteofbpdogmajoaaGreatDoor
open Go.RowKit

namespace Pt
theorem numsB_zero (z : Nat) (x : List UInt8) : numsB z 0 x = [] := rfl
theorem numsB_cons {z n : Nat} {a x : List UInt8} (h : a.length = z) : numsB z (n + 1) (a ++ x) = RS.num a :: numsB z n x := by
  unfold numsB
  rw [List.range_succ_eq_map, List.map_cons, List.map_map]
  congr 1
  · rw [Nat.mul_zero, List.drop_zero, ← h, List.take_left]
  · refine List.map_congr_left (fun i _ => ?_)
    show RS.num (((a ++ x).drop (z * (i + 1))).take z) = _
    rw [show z * (i + 1) = a.length + z * i by rw [Nat.mul_add, Nat.mul_one, h]; omega, ← List.drop_drop, List.drop_left]
theorem num_w (a b : UInt8) : RS.num [a, b] = 256 * a.toNat + b.toNat := by unfold RS.num; simp
theorem num_4 (a b c d : UInt8) : RS.num [a, b, c, d] = 16777216 * a.toNat + 65536 * b.toNat + 256 * c.toNat + d.toNat := by unfold RS.num; simp; omega
/-- How many bytes a number has. -/
def zb (wide : Bool) : Nat := if wide then 4 else 2
theorem nums_cons (wide : Bool) (n : Nat) (l : List Nat) : nums wide (n :: l) = nums wide [n] ++ nums wide l := by
  unfold nums
  cases wide <;> simp [fours, twos]
theorem nums_one (wide : Bool) (n : Nat) : (nums wide [n]).length = zb wide := by
  unfold nums zb
  cases wide <;> simp [fours, twos, two]
theorem num_nums {wide : Bool} {n : Nat} (h : n < 4294967296) (h2 : wide = false → n < 65536) : RS.num (nums wide [n]) = n := by
  cases wide with
  | true =>
    unfold nums
    simp only [if_true, fours, twos, two, List.flatMap_cons, List.flatMap_nil, List.append_nil, List.cons_append, List.nil_append]
    rw [num_4]
    simp
    omega
  | false =>
    have := h2 rfl
    unfold nums
    simp only [Bool.false_eq_true, if_false, twos, two, List.flatMap_cons, List.flatMap_nil, List.append_nil]
    rw [num_w]
    simp
    omega
theorem numsB_nums {wide : Bool} : ∀ (l : List Nat) (r : List UInt8), (∀ n ∈ l, n < 4294967296) → (wide = false → ∀ n ∈ l, n < 65536) → numsB (zb wide) l.length (nums wide l ++ r) = l
  | [], r, _, _ => rfl
  | n :: l, r, h, h2 => by
    rw [nums_cons, List.append_assoc, List.length_cons, numsB_cons (nums_one wide n), num_nums (h n (List.mem_cons_self ..)) (fun e => h2 e n (List.mem_cons_self ..)), numsB_nums l r (fun m hm => h m (List.mem_cons_of_mem _ hm)) (fun e m hm => h2 e m (List.mem_cons_of_mem _ hm))]
theorem length_numsZ (wide : Bool) (l : List Nat) : (nums wide l).length = zb wide * l.length := by
  induction l with
  | nil => rw [nums_nil]; simp
  | cons n l ih => rw [nums_cons, List.length_append, nums_one, ih, List.length_cons, Nat.mul_add, Nat.mul_one]; omega
theorem rdL_form {wide : Bool} : ∀ (p acc : List Seg), p.all may1 = true → acc.length + p.length ≤ 32 → fits p → (wide = false → ∀ s ∈ p, ∀ n ∈ s.2, n < 65536) → rdL (zb wide) acc (form wide p) = (acc ++ p, 0)
  | [], acc, _, _, _, _ => by rw [form_nil, rdL_nil, List.append_nil]
  | s :: p, acc, hm, hl, hf, hw => by
    rw [List.all_cons, Bool.and_eq_true] at hm
    obtain ⟨h1, h2⟩ := hm
    unfold may1 at h1
    simp only [Bool.and_eq_true, decide_eq_true_eq] at h1
    obtain ⟨⟨⟨a1, a4⟩, a5⟩, a6⟩ := h1
    have hn : (UInt8.ofNat s.2.length).toNat = s.2.length := by simp; omega
    rw [List.length_cons] at hl
    have e : form wide (s :: p) = s.1 :: UInt8.ofNat s.2.length :: (nums wide s.2 ++ form wide p) := by
      show seg wide s ++ form wide p = _
      unfold seg
      simp
    rw [e, rdL_two, hn, if_neg (by rw [List.length_append, length_numsZ]; omega), if_neg (by rw [decide_eq_true a1, decide_eq_true a4, decide_eq_true a5]; decide), if_neg (by omega), numsB_nums s.2 _ (hf s (List.mem_cons_self ..)) (fun e => hw e s (List.mem_cons_self ..)), ← length_numsZ, List.drop_left,
      rdL_form p _ h2 (by simp; omega) (fun t ht => hf t (List.mem_cons_of_mem _ ht)) (fun e t ht => hw e t (List.mem_cons_of_mem _ ht)), List.append_assoc]
    rfl
theorem read_form {wide : Bool} {p : List Seg} (hm : may p = true) (hf : fits p) (hw : wide = false → ∀ s ∈ p, ∀ n ∈ s.2, n < 65536) : read wide (form wide p) = (p, 0) := by
  unfold may at hm
  rw [Bool.and_eq_true] at hm
  have := rdL_form p [] hm.1 (by have := hm.2; simp at this ⊢; omega) hf hw
  rw [List.nil_append] at this
  exact this
theorem nums_num {wide : Bool} {a : List UInt8} (h : a.length = zb wide) : nums wide [RS.num a] = a ∧ RS.num a < 4294967296 ∧ (wide = false → RS.num a < 65536) := by
  have hl := RS.num_lt a
  rw [h] at hl
  cases wide with
  | true =>
    obtain ⟨x, y, z, t, rfl⟩ : ∃ x y z t, a = [x, y, z, t] := by
      match a, h with
      | [x, y, z, t], _ => exact ⟨x, y, z, t, rfl⟩
    refine ⟨?_, hl, fun e => by cases e⟩
    rw [num_4]
    have := x.toNat_lt
    have := y.toNat_lt
    have := z.toNat_lt
    have := t.toNat_lt
    unfold nums
    simp only [if_true, fours, twos, two, List.flatMap_cons, List.flatMap_nil, List.append_nil, List.cons_append, List.nil_append]
    have e (u : Nat) (c : UInt8) (h : u % 256 = c.toNat) : UInt8.ofNat u = c := UInt8.toNat_inj.1 (by simpa using h)
    rw [e _ x (by omega), e _ y (by omega), e _ z (by omega), e _ t (by omega)]
  | false =>
    obtain ⟨x, y, rfl⟩ : ∃ x y, a = [x, y] := by
      match a, h with
      | [x, y], _ => exact ⟨x, y, rfl⟩
    have hl2 : RS.num [x, y] < 65536 := hl
    refine ⟨?_, by omega, fun _ => hl2⟩
    rw [num_w]
    have := x.toNat_lt
    have := y.toNat_lt
    unfold nums
    simp only [Bool.false_eq_true, if_false, twos, two, List.flatMap_cons, List.flatMap_nil, List.append_nil]
    have e (u : Nat) (c : UInt8) (h : u % 256 = c.toNat) : UInt8.ofNat u = c := UInt8.toNat_inj.1 (by simpa using h)
    rw [e _ x (by omega), e _ y (by omega)]
theorem nums_numsB {wide : Bool} : ∀ (n : Nat) (r : List UInt8), zb wide * n ≤ r.length → nums wide (numsB (zb wide) n r) = r.take (zb wide * n) ∧ (∀ m ∈ numsB (zb wide) n r, m < 4294967296) ∧ (wide = false → ∀ m ∈ numsB (zb wide) n r, m < 65536) ∧ (numsB (zb wide) n r).length = n
  | 0, r, _ => ⟨by rw [numsB_zero, nums_nil]; simp, (fun _ h => by cases h), (fun _ _ h => by cases h), rfl⟩
  | n + 1, r, h => by
    rw [Nat.mul_add, Nat.mul_one] at h
    have ha : (r.take (zb wide)).length = zb wide := by rw [List.length_take]; omega
    obtain ⟨h1, h2, h3⟩ := nums_num ha
    obtain ⟨i1, i2, i3, i4⟩ := nums_numsB (wide := wide) n (r.drop (zb wide)) (by rw [List.length_drop]; omega)
    have e : numsB (zb wide) (n + 1) r = RS.num (r.take (zb wide)) :: numsB (zb wide) n (r.drop (zb wide)) := by
      rw [← numsB_cons ha, List.take_append_drop]
    rw [e]
    refine ⟨?_, fun m hm => ?_, fun ew m hm => ?_, by rw [List.length_cons, i4]⟩
    · rw [nums_cons, h1, i1, Nat.mul_add, Nat.mul_one, Nat.add_comm, List.take_add]
    · rcases List.mem_cons.1 hm with rfl | hm
      · exact h2
      · exact i2 m hm
    · rcases List.mem_cons.1 hm with rfl | hm
      · exact h3 ew
      · exact i3 ew m hm
theorem rdL_back {wide : Bool} : ∀ (x : List UInt8) (acc q : List Seg), rdL (zb wide) acc x = (q, 0) → acc.length ≤ 32 → ∃ p, q = acc ++ p ∧ form wide p = x ∧ p.all may1 = true ∧ acc.length + p.length ≤ 32 ∧ fits p ∧ (wide = false → ∀ s ∈ p, ∀ n ∈ s.2, n < 65536)
  | [], acc, q, h, ha => by
    rw [rdL_nil] at h
    injection h with h
    exact ⟨[], by rw [h, List.append_nil], rfl, rfl, by simp; omega, (fun _ h => by cases h), (fun _ _ h => by cases h)⟩
  | [a], acc, q, h, _ => by rw [rdL_one] at h; cases h
  | k :: n :: r, acc, q, h, ha => by
    rw [rdL_two] at h
    by_cases h1 : r.length < zb wide * n.toNat
    · rw [if_pos h1] at h; cases h
    · rw [if_neg h1] at h
      by_cases h2 : (decide (1 ≤ k.toNat) && decide (k.toNat ≤ 4) && decide (0 < n.toNat)) = false
      · rw [if_pos h2] at h; cases h
      · rw [if_neg h2] at h
        by_cases h3 : acc.length = 32
        · rw [if_pos h3] at h; cases h
        · rw [if_neg h3] at h
          obtain ⟨p, rfl, e2, e3, e4, e5, e6⟩ := rdL_back (r.drop (zb wide * n.toNat)) _ q h (by simp; omega)
          obtain ⟨i1, i2, i3, i4⟩ := nums_numsB (wide := wide) n.toNat r (by omega)
          have hn8 := n.toNat_lt
          refine ⟨(k, numsB (zb wide) n.toNat r) :: p, by rw [List.append_assoc]; rfl, ?_, ?_, by simp at e4 ⊢; omega, ?_, ?_⟩
          · show seg wide (k, numsB (zb wide) n.toNat r) ++ form wide p = _
            unfold seg
            simp only [i4, i1, e2, UInt8.ofNat_toNat, List.cons_append, List.nil_append, List.take_append_drop]
          · rw [List.all_cons, e3, Bool.and_true]
            unfold may1
            simp only [Bool.not_eq_false, Bool.and_eq_true, decide_eq_true_eq] at h2
            simp only [i4, Bool.and_eq_true, decide_eq_true_eq]
            omega
          · intro s hs
            rcases List.mem_cons.1 hs with rfl | hs
            · exact i2
            · exact e5 s hs
          · intro ew s hs
            rcases List.mem_cons.1 hs with rfl | hs
            · exact i3 ew
            · exact e6 ew s hs
termination_by x => x.length
decreasing_by simp; omega
theorem form_read {wide : Bool} {b : List UInt8} {p : List Seg} (h : read wide b = (p, 0)) : form wide p = b ∧ may p = true ∧ fits p ∧ (wide = false → hasW p = false) := by
  obtain ⟨q, hq, h1, h2, h3, h4, h5⟩ := rdL_back (wide := wide) b [] p h (by simp)
  obtain rfl : p = q := hq
  refine ⟨h1, ?_, h4, fun e => ?_⟩
  · unfold may
    rw [h2, Bool.true_and]
    simp at h3 ⊢
    omega
  · unfold hasW
    rw [List.any_eq_false]
    intro x hx
    unfold all at hx
    obtain ⟨s, hs, hx⟩ := List.mem_flatMap.1 hx
    obtain ⟨n, hn, rfl⟩ := List.mem_map.1 hx
    have := h5 e s hs n hn
    simp
    omega
theorem bytes_read {wide : Bool} {b : List UInt8} {p : List Seg} (h : read wide b = (p, 0)) : bytes p wide = (b, 0) := by
  obtain ⟨h1, h2, _, h4⟩ := form_read h
  unfold bytes
  rw [if_neg (by rw [h2]; simp), if_neg (by cases wide with | true => simp | false => simp [h4 rfl]), h1]
/-- Where reading fails nothing is read. -/
theorem rdL_fault (z : Nat) : ∀ (x : List UInt8) (acc : List Seg), (rdL z acc x).2 ≠ 0 → (rdL z acc x).1 = []
  | [], acc, h => by rw [rdL_nil] at h; exact absurd rfl h
  | [a], acc, h => by rw [rdL_one]
  | k :: n :: r, acc, h => by
    rw [rdL_two] at h ⊢
    by_cases h1 : r.length < z * n.toNat
    · rw [if_pos h1]
    · rw [if_neg h1] at h ⊢
      by_cases h2 : (decide (1 ≤ k.toNat) && decide (k.toNat ≤ 4) && decide (0 < n.toNat)) = false
      · rw [if_pos h2]
      · rw [if_neg h2] at h ⊢
        by_cases h3 : acc.length = 32
        · rw [if_pos h3]
        · rw [if_neg h3] at h ⊢
          exact rdL_fault z _ _ h
termination_by x => x.length
decreasing_by simp; omega
/-- Unlike paths have unlike forms. -/
theorem form_inj {p q : List Seg} (hp : may p = true) (hq : may q = true) (fp : fits p) (fq : fits q) : (form true p == form true q) = decide (p = q) := by
  rw [Bool.eq_iff_iff, beq_iff_eq, decide_eq_true_eq]
  constructor
  · intro h
    have h1 := read_form hp fp (fun e : true = false => by cases e)
    have h2 := read_form hq fq (fun e : true = false => by cases e)
    rw [h, h2] at h1
    injection h1 with h1
    exact h1.symm
  · rintro rfl; rfl
end Pt
end Go.Proofs.YteofbpdogmajoaaGreatDoor
namespace Go.Proofs.YteofbpdogmajoaaGreatDoor
open Go.RowKit

namespace Ax
/-- Two attributes say the same of a known type. -/
def eqf (s x : At) (t : UInt8) : Prop :=
  if t.toNat = 1 then s.origin = x.origin else if t.toNat = 2 then s.path = x.path else if t.toNat = 3 then s.nh = x.nh else if t.toNat = 4 then s.med = x.med else if t.toNat = 5 then s.pref = x.pref
  else if t.toNat = 6 then True else if t.toNat = 7 then s.byA = x.byA ∧ s.byI = x.byI else if t.toNat = 8 then s.comms = x.comms else if t.toNat = 17 then s.path4 = x.path4 else s.by4A = x.by4A ∧ s.by4I = x.by4I
theorem eqf_has (s x : At) (t : UInt8) (n : Nat) : eqf { s with has := n } x t ↔ eqf s x t := Iff.rfl
theorem eqf_others (s x : At) (t : UInt8) (l : List Ot) : eqf { s with others := l } x t ↔ eqf s x t := Iff.rfl
theorem eqf_refl (s : At) (t : UInt8) : eqf s s t := by unfold eqf; (repeat' split) <;> first | rfl | trivial | exact ⟨rfl, rfl⟩
theorem eqf_trans {s x y : At} {t : UInt8} (h : eqf s x t) (k : eqf x y t) : eqf s y t := by
  unfold eqf at *
  (repeat' split) <;> simp_all
theorem eqf_symm {s x : At} {t : UInt8} (h : eqf s x t) : eqf x s t := by
  unfold eqf at *
  (repeat' split) <;> simp_all
theorem eqf_rdv (four : Bool) (s x : At) {t t' : UInt8} (v : List UInt8) (hk : known t = true) (hk' : known t' = true) (hne : t ≠ t') : eqf (rdv four s t v) x t' ↔ eqf s x t' := by
  rcases known_cases t hk with rfl | rfl | rfl | rfl | rfl | rfl | rfl | rfl | rfl | rfl
  all_goals
    rcases known_cases t' hk' with rfl | rfl | rfl | rfl | rfl | rfl | rfl | rfl | rfl | rfl
    all_goals first | exact absurd rfl hne | exact Iff.rfl
theorem eqf_drop (s x : At) {t t' : UInt8} (hk : known t = true) (hk' : known t' = true) (hne : t ≠ t') : eqf (drop s t) x t' ↔ eqf s x t' := by
  rcases known_cases t hk with rfl | rfl | rfl | rfl | rfl | rfl | rfl | rfl | rfl | rfl
  all_goals
    rcases known_cases t' hk' with rfl | rfl | rfl | rfl | rfl | rfl | rfl | rfl | rfl | rfl
    all_goals first | exact absurd rfl hne | exact Iff.rfl
theorem drop_zero (s : At) {t : UInt8} (hk : known t = true) : eqf (drop s t) zeroA t := by
  rcases known_cases t hk with rfl | rfl | rfl | rfl | rfl | rfl | rfl | rfl | rfl | rfl
  all_goals first | exact rfl | exact trivial | exact ⟨rfl, rfl⟩
theorem rdv_eqf (four : Bool) (s a : At) {t : UInt8} (v : List UInt8) (hk : known t = true) : eqf (rdv four s t v) (rdv four a t v) t := by
  rcases known_cases t hk with rfl | rfl | rfl | rfl | rfl | rfl | rfl | rfl | rfl | rfl
  all_goals first | exact rfl | exact trivial | exact ⟨rfl, rfl⟩
theorem right_eqf {s x : At} {t : UInt8} (hk : known t = true) (h : eqf s x t) : right s t = right x t := by
  rcases known_cases t hk with rfl | rfl | rfl | rfl | rfl | rfl | rfl | rfl | rfl | rfl
  all_goals
    first | rfl | (have h2 : s.origin = x.origin := h; show decide _ = decide _; rw [h2]) | (have h2 : s.path = x.path := h; show Pt.may _ = Pt.may _; rw [h2]) | (have h2 : s.nh = x.nh := h; show host _ = host _; rw [h2]) | (have h2 : s.comms = x.comms := h; show (decide _ && decide _) = (decide _ && decide _); rw [h2]) | (have h2 : s.path4 = x.path4 := h; show (decide _ && (decide _ && _)) = (decide _ && (decide _ && _)); rw [h2])
theorem val_eqf {s x : At} {t : UInt8} (four : Bool) (hk : known t = true) (h : eqf s x t) : val s four t = val x four t := by
  rcases known_cases t hk with rfl | rfl | rfl | rfl | rfl | rfl | rfl | rfl | rfl | rfl
  all_goals
    first
      | rfl
      | (have h2 : s.origin = x.origin := h; show ([_], 0) = ([_], 0); rw [h2])
      | (have h2 : s.path = x.path := h; show Pt.bytes _ _ = Pt.bytes _ _; rw [h2])
      | (have h2 : s.nh = x.nh := h; show (fours [_], 0) = (fours [_], 0); rw [h2])
      | (have h2 : s.med = x.med := h; show (fours [_], 0) = (fours [_], 0); rw [h2])
      | (have h2 : s.pref = x.pref := h; show (fours [_], 0) = (fours [_], 0); rw [h2])
      | (have h2 : s.byA = x.byA ∧ s.byI = x.byI := h; show byB _ _ _ = byB _ _ _; rw [h2.1, h2.2])
      | (have h2 : s.by4A = x.by4A ∧ s.by4I = x.by4I := h; show byB s.by4A s.by4I true = byB x.by4A x.by4I true; rw [h2.1, h2.2])
      | (have h2 : s.comms = x.comms := h; show (fours _, 0) = (fours _, 0); rw [h2])
      | (have h2 : s.path4 = x.path4 := h; show Pt.bytes _ _ = Pt.bytes _ _; rw [h2])
/-- What attributes say of a known type is as it must be, and its value says it again. -/
def Gt (four : Bool) (a : At) (t : UInt8) : Prop := (val a four t).2 = 0 ∧ okv four t (val a four t).1 = true ∧ right a t = true ∧ ∀ s, eqf (rdv four s t (val a four t).1) a t
theorem Gt.of {four : Bool} {a x : At} {t : UInt8} (hk : known t = true) (h : Gt four a t) (e : eqf x a t) : Gt four x t := by
  obtain ⟨h1, h2, h3, h4⟩ := h
  unfold Gt
  rw [val_eqf four hk e, right_eqf hk e]
  exact ⟨h1, h2, h3, fun s => eqf_trans (h4 s) (eqf_symm e)⟩
end Ax
theorem two_num_back {v : List UInt8} (h : v.length = 2) : twos [RS.num v] = v ∧ RS.num v < 65536 := by
  obtain ⟨h1, _, h3⟩ := Pt.nums_num (wide := false) (a := v) h
  exact ⟨h1, h3 rfl⟩
theorem four_num_back {v : List UInt8} (h : v.length = 4) : fours [RS.num v] = v ∧ RS.num v < 4294967296 := by
  obtain ⟨h1, h2, _⟩ := Pt.nums_num (wide := true) (a := v) h
  exact ⟨h1, h2⟩
theorem num_fours {n : Nat} (h : n < 4294967296) : RS.num (fours [n]) = n := Pt.num_nums (wide := true) h (by simp)
theorem num_twos {n : Nat} (h : n < 65536) : RS.num (twos [n]) = n := Pt.num_nums (wide := false) (by omega) (fun _ => h)
end Go.Proofs.YteofbpdogmajoaaGreatDoor
namespace Go.Proofs.YteofbpdogmajoaaGreatDoor
open Go.RowKit

namespace Ax
theorem G_path {four : Bool} {a : At} {v : List UInt8} (h : okv four 2 v = true) (hr : right (rdv four a 2 v) 2 = true) : Gt four (rdv four a 2 v) 2 := by
  have h0 : (Pt.read four v).2 = 0 := of_decide_eq_true (show decide _ = true from h)
  have h1 : Pt.read four v = ((Pt.read four v).1, 0) := by rw [← h0]
  have hv : val (rdv four a 2 v) four 2 = (v, 0) := Pt.bytes_read h1
  unfold Gt
  rw [hv]
  exact ⟨rfl, h, hr, fun s => rdv_eqf four s a v (by decide)⟩
theorem G_one {four : Bool} {a : At} {v : List UInt8} (h : okv four 1 v = true) (hr : right (rdv four a 1 v) 1 = true) : Gt four (rdv four a 1 v) 1 := by
  have h0 : v.length = 1 := of_decide_eq_true (show decide _ = true from h)
  obtain ⟨x, rfl⟩ : ∃ x, v = [x] := List.length_eq_one_iff.1 h0
  have hx : UInt8.ofNat (RS.num ([x].take 1)) = x := by
    rw [List.take_of_length_le (by simp), RS.num_one, UInt8.ofNat_toNat]
  have hv : val (rdv four a 1 [x]) four 1 = ([x], 0) := by
    show ([UInt8.ofNat (RS.num ([x].take 1))], 0) = _
    rw [hx]
  unfold Gt
  rw [hv]
  exact ⟨rfl, h, hr, fun s => rdv_eqf four s a [x] (by decide)⟩
theorem G_four {four : Bool} {a : At} {v : List UInt8} {t : UInt8} (ht : t = 3 ∨ t = 4 ∨ t = 5) (h : okv four t v = true) (hr : right (rdv four a t v) t = true) : Gt four (rdv four a t v) t := by
  have h0 : v.length = 4 := by rcases ht with rfl | rfl | rfl <;> exact of_decide_eq_true (show decide _ = true from h)
  have hn := (four_num_back h0).1
  have hv : val (rdv four a t v) four t = (v, 0) := by
    rcases ht with rfl | rfl | rfl
    all_goals
      show (fours [RS.num (v.take 4)], 0) = _
      rw [List.take_of_length_le (by omega), hn]
  have hk : known t = true := by rcases ht with rfl | rfl | rfl <;> decide
  unfold Gt
  rw [hv]
  exact ⟨rfl, h, hr, fun s => rdv_eqf four s a v hk⟩
theorem G_six {four : Bool} {a : At} {v : List UInt8} (_ : okv four 6 v = true) (hr : right (rdv four a 6 v) 6 = true) : Gt four (rdv four a 6 v) 6 :=
  ⟨rfl, rfl, hr, fun _ => trivial⟩
theorem G_seven {four : Bool} {a : At} {v : List UInt8} (h : okv four 7 v = true) (hr : right (rdv four a 7 v) 7 = true) : Gt four (rdv four a 7 v) 7 := by
  have hv : val (rdv four a 7 v) four 7 = (v, 0) := by
    cases four with
    | true =>
      have h0 : v.length = 4 + 4 := of_decide_eq_true (show decide _ = true from h)
      show (fours [RS.num (v.take 4)] ++ fours [RS.num ((v.drop 4).take 4)], 0) = _
      rw [(four_num_back (v := v.take 4) (by simp; omega)).1, (four_num_back (v := (v.drop 4).take 4) (by simp; omega)).1, List.take_of_length_le (l := v.drop 4) (by simp; omega), List.take_append_drop]
    | false =>
      have h0 : v.length = 2 + 4 := of_decide_eq_true (show decide _ = true from h)
      have h2 := two_num_back (v := v.take 2) (by simp; omega)
      show byB (RS.num (v.take 2)) (RS.num ((v.drop 2).take 4)) false = _
      unfold byB
      rw [if_neg (by simp), if_neg (by omega), h2.1, (four_num_back (v := (v.drop 2).take 4) (by simp; omega)).1, List.take_of_length_le (l := v.drop 2) (by simp; omega), List.take_append_drop]
  unfold Gt
  rw [hv]
  exact ⟨rfl, h, hr, fun s => rdv_eqf four s a v (by decide)⟩
theorem G_last {four : Bool} {a : At} {v : List UInt8} (h : okv four 18 v = true) (hr : right (rdv four a 18 v) 18 = true) : Gt four (rdv four a 18 v) 18 := by
  have hv : val (rdv four a 18 v) four 18 = (v, 0) := by
    have h0 : v.length = 8 := of_decide_eq_true (show decide _ = true from h)
    show (fours [RS.num (v.take 4)] ++ fours [RS.num ((v.drop 4).take 4)], 0) = _
    rw [(four_num_back (v := v.take 4) (by simp; omega)).1, (four_num_back (v := (v.drop 4).take 4) (by simp; omega)).1, List.take_of_length_le (l := v.drop 4) (by simp; omega), List.take_append_drop]
  unfold Gt
  rw [hv]
  exact ⟨rfl, h, hr, fun s => rdv_eqf four s a v (by decide)⟩
theorem G_comms {four : Bool} {a : At} {v : List UInt8} (h : okv four 8 v = true) (hr : right (rdv four a 8 v) 8 = true) : Gt four (rdv four a 8 v) 8 := by
  have h0 : v.length % 4 = 0 := of_decide_eq_true (show decide _ = true from h)
  have hv : val (rdv four a 8 v) four 8 = (v, 0) := by
    have h1 := (Pt.nums_numsB (wide := true) (v.length / 4) v (by show 4 * _ ≤ _; omega)).1
    show (fours (Pt.numsB 4 (v.length / 4) v), 0) = _
    have h2 : fours (Pt.numsB 4 (v.length / 4) v) = v.take (4 * (v.length / 4)) := h1
    rw [h2, List.take_of_length_le (by omega)]
  unfold Gt
  rw [hv]
  exact ⟨rfl, h, hr, fun s => rdv_eqf four s a v (by decide)⟩
theorem plains_plains (l : List Seg) : plains (plains l) = plains l := by unfold plains; rw [List.filter_filter]; simp
theorem G_path4 {four : Bool} {a : At} {v : List UInt8} (h : okv four 17 v = true) (hr : right (rdv four a 17 v) 17 = true) : Gt four (rdv four a 17 v) 17 := by
  have h0 : (Pt.read true v).2 = 0 := of_decide_eq_true (show decide _ = true from h)
  have h1 : Pt.read true v = ((Pt.read true v).1, 0) := by rw [← h0]
  obtain ⟨-, -, hf, -⟩ := Pt.form_read h1
  have hr2 : (decide (0 < (plains (plains (Pt.read true v).1)).length) && (decide ((plains (plains (Pt.read true v).1)).length = (plains (Pt.read true v).1).length) && Pt.may (plains (Pt.read true v).1))) = true := hr
  simp only [Bool.and_eq_true] at hr2
  have hm := hr2.2.2
  have hf2 : Pt.fits (plains (Pt.read true v).1) := fun s hs => hf s (plains_memQ hs)
  have hb : Pt.bytes (plains (Pt.read true v).1) true = (Pt.form true (plains (Pt.read true v).1), 0) := by
    unfold Pt.bytes
    rw [if_neg (by rw [hm]; simp), if_neg (by simp)]
  have hrd := Pt.read_form (wide := true) hm hf2 (by simp)
  have hv : val (rdv four a 17 v) four 17 = (Pt.form true (plains (Pt.read true v).1), 0) := hb
  unfold Gt
  rw [hv]
  refine ⟨rfl, ?_, hr, fun s => ?_⟩
  · show decide ((Pt.read true (Pt.form true (plains (Pt.read true v).1))).2 = 0) = true
    rw [hrd]
    rfl
  · show plains (Pt.read true (Pt.form true (plains (Pt.read true v).1))).1 = plains (Pt.read true v).1
    rw [hrd]
    exact plains_plains _
/-- What is kept is as it must be, and says itself again. -/
theorem G_kept {four : Bool} {a : At} {v : List UInt8} {t : UInt8} (hk : known t = true) (h : okv four t v = true) (hr : right (rdv four a t v) t = true) : Gt four (rdv four a t v) t := by
  rcases known_cases t hk with rfl | rfl | rfl | rfl | rfl | rfl | rfl | rfl | rfl | rfl
  · exact G_one h hr
  · exact G_path h hr
  · exact G_four (.inl rfl) h hr
  · exact G_four (.inr (.inl rfl)) h hr
  · exact G_four (.inr (.inr rfl)) h hr
  · exact G_six h hr
  · exact G_seven h hr
  · exact G_comms h hr
  · exact G_path4 h hr
  · exact G_last h hr
end Ax
end Go.Proofs.YteofbpdogmajoaaGreatDoor
