
/-
  Nodes in memory; a writer that is new; how much the nodes lay at most.
-/
import Derived.Test.YtmaebgpppedllaaBo
import Derived.Test.YtmaebgpppedllaaLaw
import Derived.Test.YtmaebgpppedllaaLp
namespace Go.Proofs.Ytmaebgpppedllaa
open Go.RowKit

def Nd.none : Nd := .mk 0 0 []
/-- The slice value v reads as nodes, so deep. -/
def Nds : Nat → World → Value → List Nd → Prop
  | 0, _, v, l => ∃ A c, v = .slice A l.length c ∧ l.length ≤ maxLen
  | d + 1, w, v, l => ∃ A c, v = .slice A l.length c ∧ l.length ≤ maxLen ∧ (0 < l.length → ∃ b o, A = some ⟨b, o, Option.none⟩ ∧ ∀ i, i < l.length → ∃ pv,
      w.cell? ⟨b, o + i * 3, Option.none⟩ = some (.int .u8 ((l.getD i Nd.none).wide : Int)) ∧ w.cell? ⟨b, o + i * 3 + 1, Option.none⟩ = some (.int .u32 ((l.getD i Nd.none).n : Int)) ∧
      w.cell? ⟨b, o + i * 3 + 2, Option.none⟩ = some pv ∧ (l.getD i Nd.none).wide < 256 ∧ (l.getD i Nd.none).n < 4294967296 ∧ Nds d w pv (l.getD i Nd.none).parts)
theorem Nds.form : ∀ {d : Nat} {w : World} {v : Value} {l : List Nd}, Nds d w v l → ∃ A c, v = .slice A l.length c ∧ l.length ≤ maxLen
  | 0, _, _, _, h => h
  | _ + 1, _, _, _, ⟨A, c, h1, h2, _⟩ => ⟨A, c, h1, h2⟩

/-- What lay keeps: its writer is new, from W's end on. -/
def NewW (W w : World) (p : Nat) (s : WS) : Prop := ∃ F, Wr w F p s ∧ Sub W F Nothing ∧ Kept Nothing W w
theorem NewW.old {W w w' : World} {p : Nat} {s : WS} (h : NewW W w p s) (k : Kept Nothing w w') : NewW W w' p s := by
  obtain ⟨F, h1, h2, h3⟩ := h
  exact ⟨F, h1.kept k (fun _ _ x => x), h2, h3.trans k⟩
theorem NewW.call {W w : World} {p : Nat} {s s' : WS} {f : FuncId} {args : Array Value} (h : NewW W w p s)
    (hc : ∀ F, Wr w F p s → Calls Try.prog f args w fun r w' => ∃ F', r = .returned (.pointer (some ⟨p, 0, Option.none⟩)) ∧ Wr w' F' p s' ∧ Kept F w w' ∧ Sub w F' F) :
    Calls Try.prog f args w fun r w' => r = .returned (.pointer (some ⟨p, 0, Option.none⟩)) ∧ NewW W w' p s' := by
  obtain ⟨F, h1, h2, h3⟩ := h
  exact (hc F h1).mono fun e w' ⟨F', he, hw, hk, hs⟩ => ⟨he, F', hw, h2.trans hs h3.size, h3.news hk h2⟩

/-- How many bytes, and how many holds, a node lays at most, so deep. -/
def most : Nat → Nat
  | 0 => 4
  | d + 1 => 2 + 6 * most d
theorem most_ge : ∀ d, 4 ≤ most d
  | 0 => Nat.le_refl _
  | d + 1 => by have := most_ge d; unfold most; omega
def Grows (s t : WS) (m : Nat) : Prop := t.l.length ≤ s.l.length + m ∧ t.hs.length ≤ s.hs.length + m
theorem fold_grows {f : WS → Nd → WS} {m : Nat} (hf : ∀ s x, Grows s (f s x) m) : ∀ (l : List Nd) (s : WS), Grows s (l.foldl f s) (l.length * m)
  | [], s => ⟨Nat.le_add_right _ _, Nat.le_add_right _ _⟩
  | x :: l, s => by
    have h1 := hf s x
    have h2 := fold_grows hf l (f s x)
    rw [List.foldl_cons, List.length_cons, Nat.add_mul]
    unfold Grows at *
    omega
theorem Nd.bytes_le (x : Nd) : x.bytes.length ≤ 4 := by
  have := x.width_or
  rw [show x.bytes.length = x.width from length_be _ _]
  omega
theorem WS.lay_grows (s : WS) (b : List UInt8) : Grows s (s.lay b) b.length := ⟨WS.lay_len s b, by rw [WS.lay_hs]; omega⟩
theorem Nd.grows : ∀ (d : Nat) (s : WS) (x : Nd), Grows s (Nd.lay d s x) (most d)
  | 0, s, x => by
    have h1 := WS.lay_grows s x.bytes
    have h2 := x.bytes_le
    unfold Nd.lay most
    unfold Grows at *
    omega
  | d + 1, s, x => by
    unfold Nd.lay
    split
    · have h1 := WS.lay_grows s x.bytes
      have h2 := x.bytes_le
      have h3 := most_ge (d + 1)
      unfold Grows at *
      omega
    · have h1 := WS.hold_len s (x.span : Int)
      have h2 := fold_grows (Nd.grows d) (x.parts.take 6) (s.hold (x.span : Int))
      have h3 := WS.fill_len ((x.parts.take 6).foldl (Nd.lay d) (s.hold (x.span : Int)))
      have h4 : (x.parts.take 6).length * most d ≤ 6 * most d := Nat.mul_le_mul_right _ (by rw [List.length_take]; omega)
      unfold most
      unfold Grows at *
      omega
end Go.Proofs.Ytmaebgpppedllaa
