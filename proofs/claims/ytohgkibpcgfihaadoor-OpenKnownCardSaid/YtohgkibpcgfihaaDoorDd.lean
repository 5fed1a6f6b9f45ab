
/-
  The law CapsOurs: it returns true, whatever it is given, and leaves what was there as it was.
-/
import Derived.Test.YtohgkibpcgfihaaDoorDb
import Derived.Test.YtohgkibpcgfihaaDoorCh
import Derived.Test.YtohgkibpcgfihaaDoorCg
namespace Go.Proofs.YtohgkibpcgfihaaDoor
open Go.RowKit

theorem fewL_small (l : List Cp) : (fewL l).length ≤ 20 := by unfold fewL; rw [List.length_map, List.length_take]; omega
theorem RS.num_be4 (n : Nat) (h : n < 4294967296) (m : List Cp) : Cp.number (oursL n ++ m) = (n, true) := by
  show Cp.number ((1, [0, 1, 0, 1]) :: (2, []) :: (65, be4 n) :: m) = _
  rw [Cp.number_miss (by rintro ⟨_, h⟩; exact absurd h (by decide)), Cp.number_miss (by rintro ⟨h, _⟩; exact absurd h (by decide)), Cp.number_hit rfl rfl]
  rw [be4_num n h]
theorem ours_refreshes (n : Nat) (m : List Cp) : Cp.refreshes (oursL n ++ m) = true := by
  show Cp.refreshes ((1, [0, 1, 0, 1]) :: (2, []) :: (65, be4 n) :: m) = _
  rw [Cp.refreshes_miss (by rintro ⟨h, _⟩; exact absurd h (by decide)), Cp.refreshes_hit (by decide) rfl]
theorem ours_ipv4 (n : Nat) (m : List Cp) : Cp.ipv4 false (oursL n ++ m) = true := Cp.ipv4_hit (by decide) rfl
def xb (n : Nat) : List UInt8 := [2, 14, 1, 4, 0, 1, 0, 1, 2, 0, 65, 4] ++ be4 n
theorem ours_bytes (n : Nat) : Cp.bytes (oursL n) = (xb n, 0) := rfl
theorem ours_read (n : Nat) : Cp.out [] (xb n) = (oursL n, 0, 0) := by
  have := Cp.bytes_back (l := oursL n) (by rw [ours_bytes])
  rwa [ours_bytes] at this
theorem bys_xb (n : Nat) (h : n < 4294967296) : bys (xb n) = [.int .u8 2, .int .u8 14, .int .u8 1, .int .u8 4, .int .u8 0, .int .u8 1, .int .u8 0, .int .u8 1, .int .u8 2, .int .u8 0, .int .u8 65, .int .u8 4, .int .u8 ((n : Int) / 16777216), .int .u8 ((n : Int) / 65536 % 256), .int .u8 ((n : Int) / 256 % 256), .int .u8 ((n : Int) % 256)] := by
  have h24 : (((n / 16777216 : Nat) : Int)) % 256 = (n : Int) / 16777216 := by omega
  rw [← h24]
  unfold xb be4
  rw [bys_append]
  unfold bys
  simp only [List.map_cons, List.map_nil, by8_mod]
  rfl

theorem Cells.append {B : Value → List UInt8 → Prop} : ∀ {xs ys : List Value} {l m : List Cp}, Cells B xs l → Cells B ys m → Cells B (xs ++ ys) (l ++ m)
  | [], _, [], _, _, h => h
  | _ :: _ :: _, _, _ :: _, _, ⟨h1, h2, h3⟩, h => ⟨h1, h2, Cells.append h3 h⟩
  | [], _, _ :: _, _, h, _ => h.elim
  | [_], _, _, _, h, _ => by unfold Cells at h; exact h.elim
  | _ :: _ :: _, _, [], _, h, _ => by unfold Cells at h; exact h.elim
theorem Cells.one {w : World} : ∀ {xs : List Value} {l : List Cp}, Cells (Bs w) xs l → ∀ u ∈ xs, u.oneCell' = true
  | [], [], _, _, hu => by cases hu
  | a :: v :: xs, c :: l, ⟨h1, h2, h3⟩, u, hu => by
    rcases List.mem_cons.1 hu with rfl | hu
    · rw [h1]; rfl
    · rcases List.mem_cons.1 hu with rfl | hu
      · obtain ⟨A, k, rfl, _, _⟩ := h2.form; rfl
      · exact Cells.one h3 u hu
  | [], _ :: _, h, _, _ => h.elim
  | [_], _, h, _, _ => by unfold Cells at h; exact h.elim
  | _ :: _ :: _, [], h, _, _ => by unfold Cells at h; exact h.elim
theorem own_of_blk {w : World} {g base n size : Nat} {e : TypeId} {cs : Array Value} (h : Blk w g e cs) (hb : base ≤ g) (hs : cs.size = n * size) (hm : n ≤ maxLen) : w.ownsRow base e size (.slice (some ⟨g, 0, none⟩) n n) n cs.toList :=
  ⟨by simpa using hs, .inr ⟨g, n, cs, rfl, hb, h, Nat.le_refl _, hm, hs, List.take_of_length_le (by simp [hs])⟩⟩
theorem own_src {w : World} {base n c size : Nat} {e : TypeId} {A : Option Addr} {xs : List Value} (h : w.ownsRow base e size (.slice A n c) n xs) (h1 : ∀ u ∈ xs, u.oneCell' = true) : Src w size A n xs := by
  obtain ⟨hl, h2⟩ := h
  rcases h2 with ⟨he, h0⟩ | ⟨g, cap, cur, he, _, hg, _, _, _, ht⟩
  · injection he with e1 e2 e3
    subst e1
    exact ⟨hl, fun _ => h0, (fun a ha => by cases ha), h1⟩
  · injection he with e1 e2 e3
    subst e1
    refine ⟨hl, (fun ha => by cases ha), fun a ha j u hu => ?_, h1⟩
    injection ha with ha
    subst ha
    rw [add_none, Nat.zero_add, cell_of_row w g _ cur e (0, 0) hg]
    have hj : j < xs.length := (List.getElem?_eq_some_iff.1 hu).1
    rw [← ht, List.getElem?_take_of_lt (by omega), Array.getElem?_toList] at hu
    exact hu

end Go.Proofs.YtohgkibpcgfihaaDoor
