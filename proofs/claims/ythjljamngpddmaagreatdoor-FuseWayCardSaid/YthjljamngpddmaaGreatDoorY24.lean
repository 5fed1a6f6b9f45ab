
/-
  The law FuseWay: what it needs besides.
-/
import Derived.Test.YthjljamngpddmaaGreatDoorY21
import Derived.Test.YthjljamngpddmaaGreatDoorY23
import Derived.Test.YthjljamngpddmaaGreatDoorY17
import Derived.Test.YthjljamngpddmaaGreatDoorY19
import Derived.Test.YthjljamngpddmaaGreatDoorY18
import Derived.Test.YthjljamngpddmaaGreatDoorY03
namespace Go.Proofs.YthjljamngpddmaaGreatDoor
open Go.RowKit Go.Shelf

/-- Numbers of two bytes as the model has them. -/
def chs (l : List Nat) : List Value := l.map fun (n : Nat) => .int .u16 (n : Int)
theorem length_chs (l : List Nat) : (chs l).length = l.length := List.length_map _
/-- The slice value v reads as these numbers. -/
def Chn (w : World) (v : Value) (l : List Nat) : Prop := (∀ n ∈ l, n < 65536) ∧ ∃ A c, v = .slice A l.length c ∧ l.length ≤ c ∧ c ≤ maxLen ∧ Src w 1 A l.length (chs l)
theorem Chn.form {w : World} {v : Value} {l : List Nat} (h : Chn w v l) : ∃ A c, v = .slice A l.length c ∧ l.length ≤ c ∧ c ≤ maxLen := by
  obtain ⟨_, A, c, hv, hc, hm, _⟩ := h; exact ⟨A, c, hv, hc, hm⟩
theorem Chn.at {w : World} {A : Option Addr} {n c : Nat} {l : List Nat} (h : Chn w (.slice A n c) l) (h0 : 0 < n) : ∃ b o, A = some ⟨b, o, none⟩ ∧ ∀ i, i < n → w.cell? ⟨b, o + i, none⟩ = some (.int .u16 ((l.getD i 0 : Nat) : Int)) := by
  obtain ⟨_, A', c', hv, _, _, hs⟩ := h
  injection hv with h1 h2 h3
  subst h1 h2 h3
  cases A with
  | none => have := hs.2.1 rfl; omega
  | some a =>
    have hg : ∀ i, i < l.length → (chs l)[i]? = some (.int .u16 ((l.getD i 0 : Nat) : Int)) := fun i hi => by
      unfold chs
      rw [List.getElem?_map, List.getElem?_eq_getElem hi, List.getD_eq_getElem?_getD, List.getElem?_eq_getElem hi]
      rfl
    have h1 : ∀ i, i < l.length → w.cell? (a.add i) = some (.int .u16 ((l.getD i 0 : Nat) : Int)) := fun i hi => hs.2.2.1 a rfl i _ (hg i hi)
    obtain ⟨b, o, spot⟩ := a
    have hsp : spot = none := by simpa [Addr.add] using World.cell?_spot (h1 0 h0)
    subst hsp
    exact ⟨b, o, rfl, fun i hi => by have := h1 i hi; rwa [add_none] at this⟩
theorem slice_hiC (A : Option Addr) (n c k : Nat) (hk : k ≤ c) (w : World) :
    (Instr.slice 56 (.slice A n c) none (some (.int .i64 (k : Int))) none).run Tryz.prog w = .ok (.slice A k c) w := by
  have hz := Tryz.sizeOf60
  have he : Tryz.prog.elem 56 = 60 := by kernel_rfl
  rw [run_slice_h w 56 _ n c (by kernel_rfl) .i64 k (by omega) (by omega), he, hz]
  cases A with
  | none => simp [sliced]
  | some a => simp [sliced, Addr.add]

namespace Fz
theorem pre_snoc (l : List Seg) (ch : List Nat) (k : Nat) (hk : k < ch.length) : pre l (ch.take (k + 1)).reverse = ahd (pre l (ch.take k).reverse) (ch.getD k 0) := by
  have hg : ch.getD k 0 = ch[k] := by rw [List.getD_eq_getElem?_getD, List.getElem?_eq_getElem hk]; rfl
  rw [List.take_succ_eq_append_getElem hk, List.reverse_append, hg]
  rfl
theorem ahd_len (l : List Seg) (n : Nat) : (ahd l n).length ≤ l.length + 1 := by
  cases l with
  | nil => simp [ahd]
  | cons s l =>
    by_cases hc : s.1.toNat = 2 ∧ s.2.length < 255
    · rw [ahd_yes hc]; simp
    · rw [ahd_no hc]; simp
theorem ahd_bnd {l : List Seg} (h : ∀ s ∈ l, s.2.length ≤ 255) (n : Nat) : ∀ s ∈ ahd l n, s.2.length ≤ 255 := by
  cases l with
  | nil =>
    intro s hs
    obtain rfl := List.mem_singleton.1 hs
    simp
  | cons t l =>
    by_cases hc : t.1.toNat = 2 ∧ t.2.length < 255
    · rw [ahd_yes hc]
      intro s hs
      rcases List.mem_cons.1 hs with rfl | hs
      · simp; omega
      · exact h s (List.mem_cons_of_mem _ hs)
    · rw [ahd_no hc]
      intro s hs
      rcases List.mem_cons.1 hs with rfl | hs
      · simp
      · exact h s hs
theorem pre_bnd {l : List Seg} (h : ∀ s ∈ l, s.2.length ≤ 255) : ∀ t, (pre l t).length ≤ l.length + t.length ∧ ∀ s ∈ pre l t, s.2.length ≤ 255
  | [] => ⟨Nat.le_refl _, h⟩
  | n :: t => by
    have ih := pre_bnd h t
    refine ⟨?_, ahd_bnd ih.2 n⟩
    have := ahd_len (pre l t) n
    show (ahd (pre l t) n).length ≤ _
    rw [List.length_cons]
    omega
theorem plainP_ok (l : List Seg) (m : Nat) : (plainP l m).length ≤ 6 ∧ ∀ s ∈ plainP l m, Wk.confed s.1 = false ∧ s.2 ≠ [] ∧ s.2.length ≤ 255 := by
  have h1 : (plains (brG l)).length ≤ 6 := Nat.le_trans (plains_len _) (brG_len l)
  have h2 : ∀ s ∈ plains (brG l), Wk.confed s.1 = false ∧ s.2 ≠ [] ∧ s.2.length ≤ 40 := fun s hs => by
    have h3 := List.mem_filter.1 hs
    have h4 := brG_num h3.1
    exact ⟨by simpa using h3.2, h4.2.1, h4.1⟩
  unfold plainP
  generalize plains (brG l) = P at *
  cases P with
  | nil => exact ⟨Nat.zero_le _, fun s hs => by cases hs⟩
  | cons t r =>
    have ht := h2 t (List.mem_cons_self ..)
    simp only
    split
    · refine ⟨h1, fun s hs => ?_⟩
      rcases List.mem_cons.1 hs with rfl | hs
      · refine ⟨ht.1, fun e => ?_, ?_⟩
        · have := congrArg List.length e
          simp only [fl_len, List.length_nil] at this
          have := List.length_pos_iff.2 ht.2.1
          omega
        · show (fl t.2 m).length ≤ 255
          rw [fl_len]
          omega
      · have := h2 s (List.mem_cons_of_mem _ hs)
        exact ⟨this.1, this.2.1, by omega⟩
    · refine ⟨h1, fun s hs => ?_⟩
      have := h2 s hs
      exact ⟨this.1, this.2.1, by omega⟩
theorem nar_bnd {l : List Seg} {k : Nat} (h : ∀ s ∈ l, s.2.length ≤ k) : ∀ s ∈ nar l, s.2.length ≤ k := fun s hs => by
  obtain ⟨t, ht, rfl⟩ := List.mem_map.1 hs
  show (t.2.map short).length ≤ k
  rw [List.length_map]
  exact h t ht
end Fz
end Go.Proofs.YthjljamngpddmaaGreatDoor
