
/-
  session: the machine as the document has it, and what is known of a session by its actions (pure).
-/
import Derived.Test.YtembdobkgpojfaaDoorMem
namespace Go.Proofs.YtembdobkgpojfaaDoor

namespace Sm
/-- An event; its data stay where they are. -/
structure Ev where
  kind : Int
  what : Nat
  hold : Int
  code : Nat
  sub : Nat
/-- An action; d: it has the event's data. -/
structure Act where
  act : Nat
  what : Nat
  ticks : Nat
  code : Nat
  sub : Nat
  d : Bool
structure M where
  state : Nat
  hold : Nat
def a0 (n : Nat) : Act := ⟨n, 0, 0, 0, 0, false⟩
def send (x : Nat) : Act := ⟨1, x, 0, 0, 0, false⟩
def set (x t : Nat) : Act := ⟨3, x, t, 0, 0, false⟩
def unset (x : Nat) : Act := ⟨4, x, 0, 0, 0, false⟩
def tell (c s : Nat) (d : Bool) : List Act := if c ≠ 0 ∨ s ≠ 0 then [⟨2, 0, 0, c, s, d⟩] else []
def ends (st : Nat) (halt : Bool) (c s : Nat) (d : Bool) : M × List Act :=
  (⟨1, 0⟩, tell c s d ++ (a0 5 :: unset 1 :: unset 2 :: unset 3 :: ((if st = 6 then [a0 8] else []) ++ if halt then [] else [set 1 120])))
def holds (h : Nat) : List Act := if h = 0 then [] else [set 2 h]
def wrong (m : M) (c s : Nat) : M × List Act := if m.state < 4 then (m, []) else ends m.state false c s false
def early (m : M) (kind : Int) (what : Nat) : M × List Act :=
  if m.state = 1 then
    if kind = 1 ∨ (kind = 6 ∧ what = 1) then (⟨2, 0⟩, [set 1 120, a0 6])
    else if kind = 2 then (m, [unset 1]) else (m, [])
  else if kind = 2 then ends m.state true 0 0 false
  else if kind = 3 then (⟨4, 0⟩, [unset 1, send 1, set 2 240])
  else if kind = 4 then (⟨3, 0⟩, [set 1 120])
  else if kind = 6 ∧ what = 1 then (⟨2, 0⟩, [set 1 120, a0 6])
  else (m, [])
def message (m : M) (what h : Nat) : M × List Act :=
  if m.state = 4 ∧ what = 1 then (⟨5, h⟩, send 4 :: if h = 0 then [unset 2] else [set 2 h, set 3 (h / 3)])
  else if m.state = 5 ∧ what = 4 then (⟨6, m.hold⟩, holds m.hold ++ [a0 7])
  else if m.state = 6 ∧ what = 4 then (m, holds m.hold)
  else if m.state = 6 ∧ what = 2 then (m, holds m.hold ++ [a0 9])
  else if m.state = 6 ∧ what = 5 then (m, [a0 9])
  else ends m.state false 5 (m.state - 3) false
def step (m : M) (e : Ev) : M × List Act :=
  if e.kind = 5 then
    if e.what < 1 ∨ 5 < e.what then wrong m 1 3
    else if e.what = 1 ∧ (e.hold < 0 ∨ e.hold = 1 ∨ e.hold = 2 ∨ 65535 < e.hold) then wrong m 2 6
    else if m.state < 4 then (m, [])
    else if e.what = 3 then ends m.state false 0 0 false
    else message m e.what e.hold.toNat
  else if m.state < 4 then early m e.kind e.what
  else if e.kind = 2 then ends m.state true 6 2 false
  else if e.kind = 4 then if m.state = 4 then (⟨3, 0⟩, [a0 5, unset 2, set 1 120]) else ends m.state false 0 0 false
  else if e.kind = 6 then
    if e.what = 2 then ends m.state false 4 0 false
    else if e.what = 3 ∧ 4 < m.state ∧ 0 < m.hold then (m, [send 4, set 3 (m.hold / 3)]) else (m, [])
  else if e.kind = 7 ∨ e.kind = 8 then ends m.state false e.code e.sub true
  else (m, [])
/-- A machine as a new one comes to be. -/
def Ok (m : M) : Prop := 1 ≤ m.state ∧ m.state ≤ 6 ∧ m.hold ≤ 65535 ∧ (m.state < 5 → m.hold = 0) ∧ m.hold ≠ 1 ∧ m.hold ≠ 2
theorem ok_new : Ok ⟨1, 0⟩ := ⟨by decide, by decide, by decide, fun _ => rfl, by decide, by decide⟩
theorem Ok.ends (st : Nat) (b : Bool) (c s : Nat) (d : Bool) : Ok (ends st b c s d).1 := ok_new
theorem Ok.wrong {m : M} (h : Ok m) (c s : Nat) : Ok (wrong m c s).1 := by
  unfold Sm.wrong
  split
  · exact h
  · exact ok_new
theorem Ok.early {m : M} (h : Ok m) (k : Int) (x : Nat) : Ok (early m k x).1 := by
  unfold Sm.early
  repeat' split
  all_goals first
    | exact h
    | exact ok_new
    | exact ⟨by decide, by decide, by decide, fun _ => rfl, by decide, by decide⟩
theorem Ok.message {m : M} (h : Ok m) (x t : Nat) (h1 : x = 1 → t ≤ 65535 ∧ t ≠ 1 ∧ t ≠ 2) : Ok (message m x t).1 := by
  unfold Sm.message
  repeat' split
  all_goals first
    | exact h
    | exact ok_new
    | exact ⟨(by decide : 1 ≤ 5), (by decide : 5 ≤ 6), (h1 (And.right (a := m.state = 4) (by assumption))).1, fun (h : 5 < 5) => absurd h (by decide), (h1 (And.right (a := m.state = 4) (by assumption))).2.1, (h1 (And.right (a := m.state = 4) (by assumption))).2.2⟩
    | exact ⟨(by decide : 1 ≤ 6), (by decide : 6 ≤ 6), h.2.2.1, fun (h : 6 < 5) => absurd h (by decide), h.2.2.2.2.1, h.2.2.2.2.2⟩
theorem ok_step (m : M) (e : Ev) (h : Ok m) : Ok (step m e).1 := by
  unfold step
  repeat' split
  all_goals first
    | exact h
    | exact ok_new
    | exact h.wrong _ _
    | exact h.early _ _
    | exact h.message _ _ (by omega)
    | exact ⟨by decide, by decide, by decide, fun _ => rfl, by decide, by decide⟩

/-- What is known of a session by its actions alone. -/
structure Wa where
  line : Bool
  sent : Bool
  heard : Bool
  kept : Bool
  up : Bool
  t1 : Bool
  t2 : Bool
  t3 : Bool
def Wa.timer (w : Wa) (x : Nat) (b : Bool) : Wa := if x = 1 then { w with t1 := b } else if x = 2 then { w with t2 := b } else { w with t3 := b }
def Wa.does (w : Wa) (a : Act) : Option Wa :=
  if a.act = 1 ∨ a.act = 2 then
    if !w.line ∨ (a.act = 1 ∧ a.what ≠ 1 ∧ a.what ≠ 4) then none else some { w with sent := w.sent || a.what == 1 }
  else if a.act = 3 then if a.what < 1 ∨ 3 < a.what ∨ a.ticks < 1 then none else some (w.timer a.what true)
  else if a.act = 4 then if a.what < 1 ∨ 3 < a.what then none else some (w.timer a.what false)
  else if a.act = 5 then some { w with line := false, sent := false, heard := false, kept := false }
  else if a.act = 7 then if w.up || !w.line || !w.sent || !w.heard || !w.kept then none else some { w with up := true }
  else if a.act = 8 then if w.up then some { w with up := false } else none
  else if a.act = 9 then if w.up then some w else none
  else some w
def Wa.all (w : Wa) : List Act → Option Wa
  | [] => some w
  | a :: l => (w.does a).bind fun u => u.all l
/-- How an event counts, ahead of what is done. -/
def Wa.comes (w : Wa) (m : M) (e : Ev) : Wa :=
  let w1 := { w with line := w.line || (decide (e.kind = 3) && (decide (m.state = 2) || decide (m.state = 3))) }
  if e.kind = 5 ∧ w1.line = true then { w1 with heard := w1.heard || (decide (e.what = 1) && decide (m.state = 4)), kept := w1.kept || (decide (e.what = 4) && decide (m.state = 5)) } else w1
/-- A Notification just ahead of a Close, and none of one. -/
def told (e : Ev) : List Act → Bool
  | [] => true
  | a :: l => (if a.act = 2 then (match l with | b :: _ => decide (b.act = 5) | [] => false) && !(decide (e.kind = 5) && decide (e.what = 3)) else true) && told e l
def Iu (w : Wa) (m : M) : Prop := w.up = decide (m.state = 6) ∧ w.line = decide (4 ≤ m.state) ∧ (4 ≤ m.state → w.sent = true) ∧ (5 ≤ m.state → w.heard = true) ∧ (m.state = 6 → w.kept = true)
set_option maxHeartbeats 4000000 in
theorem up_step (w : Wa) (m : M) (e : Ev) (h : Iu w m) (hm : Ok m) : ∃ w', (w.comes m e).all (step m e).2 = some w' ∧ Iu w' (step m e).1 ∧ told e (step m e).2 = true := by
  obtain ⟨st, hd⟩ := m
  obtain ⟨k, wh, ho, c, s⟩ := e
  obtain ⟨line, sent, heard, kept, up, t1, t2, t3⟩ := w
  obtain ⟨i1, i2, i3, i4, i5⟩ := h
  unfold Ok at hm
  simp only at hm i1 i2 i3 i4 i5
  obtain ⟨h1, h2, h3, h4, h5, h6⟩ := hm
  subst i1 i2
  unfold step wrong early message ends tell holds
  simp only
  obtain rfl | rfl | rfl | rfl | rfl | rfl : st = 1 ∨ st = 2 ∨ st = 3 ∨ st = 4 ∨ st = 5 ∨ st = 6 := by omega
  all_goals
    clear h1 h2
    simp at i3 i4 i5 h4
    try subst i3
    try subst i4
    try subst i5
    simp
    repeat' split
    all_goals first
      | (simp_all [Wa.comes, Wa.all, Wa.does, Wa.timer, a0, send, set, unset, Iu, told]; done)
      | (simp_all [Wa.comes, Wa.all, Wa.does, Wa.timer, a0, send, set, unset, Iu, told]; omega)
      | (simp_all [Wa.comes, Wa.all, Wa.does, Wa.timer, send, set, Iu, told]; (have q1 : ¬ ho ≤ 0 := by omega); (have q2 : ¬ ho < 3 := by omega); simp [q1, q2]; done)
      | (simp_all [Wa.comes, Wa.all, Wa.does, Wa.timer, send, set, Iu, told]; (have q1 : 3 ≤ hd := by omega); simp [q1]; done)

/-- Does the timer run? -/
def Wa.runs (w : Wa) (x : Nat) : Bool := if x = 1 then w.t1 else if x = 2 then w.t2 else if x = 3 then w.t3 else false
/-- A timer that went off runs no more. -/
def Wa.fire (w : Wa) (e : Ev) : Wa := if e.kind = 6 then w.timer e.what false else w
/-- Of the actions those of timers are followed. -/
def Wa.tims (w : Wa) : List Act → Option Wa
  | [] => some w
  | a :: l => if a.act = 3 ∨ a.act = 4 then (w.does a).bind fun u => u.tims l else w.tims l
def It (w : Wa) (m : M) : Prop :=
  (m.state < 4 → w.t2 = false ∧ w.t3 = false) ∧ (4 ≤ m.state → w.t1 = false) ∧ (m.state < 4 → m.state ≠ 1 → w.t1 = true) ∧ w.t3 = (decide (5 ≤ m.state) && decide (0 < m.hold)) ∧ (4 ≤ m.state → w.t2 = (decide (m.state = 4) || decide (0 < m.hold)))
set_option maxHeartbeats 8000000 in
theorem timers_step (w : Wa) (m : M) (e : Ev) (h : It w m) (hm : Ok m) (he : e.kind = 6 → w.runs e.what = true) : ∃ w', (Wa.tims { (w.fire e) with line := true } (step m e).2) = some w' ∧ It w' (step m e).1 := by
  obtain ⟨st, hd⟩ := m
  obtain ⟨k, wh, ho, c, s⟩ := e
  obtain ⟨line, sent, heard, kept, up, t1, t2, t3⟩ := w
  obtain ⟨i1, i2, i3, i4, i5⟩ := h
  unfold Ok at hm
  simp only at hm i1 i2 i3 i4 i5 he
  obtain ⟨h1, h2, h3, h4, h5, h6⟩ := hm
  unfold step wrong early message ends tell holds
  simp only
  obtain rfl | rfl | rfl | rfl | rfl | rfl : st = 1 ∨ st = 2 ∨ st = 3 ∨ st = 4 ∨ st = 5 ∨ st = 6 := by omega
  all_goals
    clear h1 h2
    simp at i1 i2 i3 i4 i5 h4
    simp [Wa.runs] at he
    simp
    repeat' split
    all_goals first
      | (simp_all [Wa.tims, Wa.does, Wa.timer, Wa.fire, a0, send, set, unset, It]; done)
      | (simp_all [Wa.tims, Wa.does, Wa.timer, Wa.fire, a0, send, set, It]; omega)
      | (simp_all [Wa.tims, Wa.does, Wa.timer, Wa.fire, a0, send, set, It]; (have q1 : ¬ ho ≤ 0 := by omega); (have q2 : ¬ ho < 3 := by omega); simp [q1, q2]; done)
      | (simp_all [Wa.tims, Wa.does, Wa.timer, Wa.fire, a0, send, set, It]; (have q1 : 3 ≤ hd := by omega); simp [q1]; done)
      | (simp_all [Wa.tims, Wa.does, Wa.timer, Wa.fire, a0, set, It]; split <;> simp_all; done)

/-- What the actions tell: the fault, a Down, a Close, whether Retry is set. -/
structure Sc where
  code : Nat
  sub : Nat
  down : Bool
  close : Bool
  retry : Bool
def Sc.see (r : Sc) (a : Act) : Sc :=
  if a.act = 2 then { r with code := a.code, sub := a.sub } else if a.act = 8 then { r with down := true } else if a.act = 5 then { r with close := true }
  else if a.act = 3 then { r with retry := decide (a.what = 1) && decide (a.ticks = 120) } else r
theorem ends_see (st : Nat) (halt : Bool) (c s : Nat) (d : Bool) : (ends st halt c s d).2.foldl Sc.see ⟨0, 0, false, false, false⟩ = ⟨c, s, decide (st = 6), true, !halt⟩ := by
  unfold ends tell
  by_cases h : c = 0 ∧ s = 0
  · obtain ⟨rfl, rfl⟩ := h
    by_cases h6 : st = 6 <;> cases halt <;> simp [h6, Sc.see, a0, set, unset]
  · have h' : c ≠ 0 ∨ s ≠ 0 := by omega
    rw [if_pos h']
    by_cases h6 : st = 6 <;> cases halt <;> simp [h6, Sc.see, a0, set, unset]
/-- The five ends. -/
theorem ends_at (m : M) (h : 4 ≤ m.state) (c s : Nat) :
    step m ⟨2, 0, 0, 0, 0⟩ = ends m.state true 6 2 false ∧ step m ⟨6, 2, 0, 0, 0⟩ = ends m.state false 4 0 false ∧ step m ⟨7, 0, 0, c, s⟩ = ends m.state false c s true ∧
    step m ⟨8, 0, 0, c, s⟩ = ends m.state false c s true ∧ step m ⟨5, 3, 0, 0, 0⟩ = ends m.state false 0 0 false := by
  have h' : ¬ m.state < 4 := by omega
  refine ⟨?_, ?_, ?_, ?_, ?_⟩ <;> simp [step, h']
theorem start_at : step ⟨1, 0⟩ ⟨1, 0, 0, 0, 0⟩ = (⟨2, 0⟩, [set 1 120, a0 6]) := by simp [step, early]
theorem connected_at : step ⟨3, 0⟩ ⟨3, 0, 0, 0, 0⟩ = (⟨4, 0⟩, [unset 1, send 1, set 2 240]) := by simp [step, early]
end Sm
end Go.Proofs.YtembdobkgpojfaaDoor
