
/-
  For the law ScrollKnown: zeros that make lays; the document's lengths as plain data.
-/
import Derived.Test.YtkmoaompgockaaaBt
import Derived.Test.YtkmoaompgockaaaIw
namespace Go.Proofs.Ytkmoaompgockaaa
open Go.RowKit

def zk (n : Nat) : Array Value := madeCells #[.int .u8 0] n
def zl (n : Nat) : List UInt8 := List.replicate n 0
theorem zl_len (n : Nat) : (zl n).length = n := List.length_replicate
theorem make_zk (n : Nat) (h : n ≤ 70000) : ∀ w : World, (Instr.makeSlice 23 (.int .i64 (n : Int)) (.int .i64 (n : Int))).run Try.prog w = .ok (.slice (some ⟨w.heap.size, 0, none⟩) n n) (w.alloc (.cells (zk n) 5)) := by
  intro w
  obtain ⟨i, hi, h1, h2, h3⟩ : ∃ i, Try.prog.info? 5 = some i ∧ i.zero = some (.int .u8 0) ∧ i.size = 1 ∧ i.bytes = 1 := ⟨_, rfl, by kernel_rfl, by kernel_rfl, by kernel_rfl⟩
  have := run_make (P := Try.prog) w 23 5 i (.int .u8 0) Try.underlying23 hi h1 .i64 .i64 (n : Int) (n : Int) (by omega) (by omega) (by rw [h3]; omega) (by omega)
  rw [h2, Nat.mul_one, Int.toNat_natCast] at this
  exact this
theorem zk_by (n : Nat) (hn : n ≤ 70000) {w : World} {g : Nat} (h : Blk w g 5 (zk n)) : By w (.slice (some ⟨g, 0, none⟩) n n) (zl n) := by
  have := Bs.made (l := zl n) h (by unfold zk zl; rw [toList_madeCells_one]; simp [bys]; exact .inr rfl) (by rw [zl_len]; unfold maxLen; omega)
  rw [zl_len] at this
  exact this.by
theorem sub_on {w0 u : World} {F F2 : Nat → Prop} (t : Sub w0 F Nothing) (hs : Sub u F2 F) (hz : w0.heap.size ≤ u.heap.size) : Sub w0 F2 Nothing := by
  intro i x
  rcases hs i x with y | y
  · exact t i y
  · exact .inr (by omega)
theorem na_of {w0 : World} {c : Obj} {F : Nat → Prop} (hs : Sub (w0.alloc c).drew F Nothing) : ¬ F w0.heap.size := fun x => by
  rcases hs _ x with y | y
  · exact y
  · have : (w0.alloc c).drew.heap.size = w0.heap.size + 1 := by simp [World.drew]
    omega
theorem sub_al {w0 : World} {c : Obj} {F : Nat → Prop} (hs : Sub (w0.alloc c).drew F Nothing) : Sub w0 F Nothing := sub_on (w0 := w0) (u := (w0.alloc c).drew) (F := Nothing) (fun _ x => .inl x) hs (((Kept.refl Nothing w0).alloc c).drew).size
theorem sub_dr {w0 : World} {F : Nat → Prop} (hs : Sub w0.drew F Nothing) : Sub w0 F Nothing := hs
theorem nb_old {u : World} {F F2 : Nat → Prop} {g : Nat} (hs : Sub u F2 F) (nf : ¬ F g) (hg : g < u.heap.size) : ¬ F2 g := fun x => by
  rcases hs _ x with y | y
  · exact nf y
  · omega
theorem nb_new {u : World} {c : Obj} {F F2 : Nat → Prop} (hs : Sub (u.alloc c) F2 F) (hlt : ∀ k, F k → k < u.heap.size) : ¬ F2 u.heap.size := fun x => by
  rcases hs _ x with y | y
  · exact absurd (hlt _ y) (Nat.lt_irrefl _)
  · rw [World.size_alloc] at y; omega
theorem f256 : (WS.fill (WS.lay ⟨[0], [(1, 1)], 0⟩ (zl 256))).done = ([], 3) := by decide +kernel
theorem f255 : (WS.fill (WS.lay ⟨[0], [(1, 1)], 0⟩ (zl 255))).done = (255 :: zl 255, 0) := by decide +kernel
theorem first_of {w : World} {v : Value} (h : Bs w v (255 :: zl 255)) : ∃ b o c, v = .slice (some ⟨b, o, none⟩) 256 c ∧ w.cell? ⟨b, o, none⟩ = some (.int .u8 255) := by
  obtain ⟨A, c, rfl, _, _⟩ := h.form
  obtain ⟨b, o, rfl, hc⟩ := h.cell (i := 0) (by simp)
  exact ⟨b, o, c, by simp [zl_len], by simpa [by8] using hc⟩
theorem f65536 : (WS.fill (WS.lay ⟨[0, 0], [(2, 2)], 0⟩ (zl 65536))).done = ([], 3) := by
  have h : (zl 65536).length = 65536 := zl_len _
  generalize zl 65536 = l at *
  simp [WS.lay, WS.fill, WS.done, WS.note, h]
end Go.Proofs.Ytkmoaompgockaaa
