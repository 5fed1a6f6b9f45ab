
/-
  session: judged; the map of what the states do; New and Do.
-/
import Derived.Test.YtembdobkgpojfaaDoorSMk
import Derived.Test.YtembdobkgpojfaaDoorSMl
import Derived.Maps.OwnSet
import Derived.Laws.EntriesVeiled
namespace Go.Proofs.YtembdobkgpojfaaDoor
open Go.RowKit Go.Maps

def evs (kd : Int) (x : Nat) (ho : Int) (c s : Nat) (dv : Value) : Array Value := #[.int .i64 kd, .int .u8 x, .int .i64 ho, .int .u8 c, .int .u8 s, dv]
/-- An event is handed out from a cell. -/
theorem ret_ev {fn : Func} {p : Tmp} (h : fn.results = #[.cell p 31]) (tm : Array Value) (W : World) (g : Nat) (kd ho : Int) (x c s : Nat) (dv : Value) (hp : tm.getD p undef = .pointer (some ⟨g, 0, none⟩)) (hB : Blk W g 31 (evs kd x ho c s dv)) :
    (results fn tm).run Tryd.prog W = .ok (.agg (evs kd x ho c s dv)) W :=
  results_cell_row h _ _ g 31 _ (0, 0) _ hp hB Tryd.underlying31 rfl (by kernel_rfl)
/-- What an event is as. -/
def Sm.jd (kd : Int) (x : Nat) (ho : Int) (c s : Nat) (dv : Value) : Array Value :=
  if kd = 5 ∧ (x < 1 ∨ 5 < x) then evs 7 0 0 1 3 (.slice none 0 0) else if kd = 5 ∧ x = 1 ∧ ¬ (ho = 0 ∨ (3 ≤ ho ∧ ho ≤ 65535)) then evs 7 0 0 2 6 (.slice none 0 0) else evs kd x ho c s dv
theorem one_ev (kd : Int) (x : Nat) (ho : Int) (c s : Nat) (A : Option Addr) (n cc : Nat) : (evs kd x ho c s (.slice A n cc)).all (·.oneCell') = true := by simp [evs, Value.oneCell']
theorem ecells2 {u : World} {g : Nat} {kd ho : Int} {x c s : Nat} {dv : Value} (h : Blk u g 31 (evs kd x ho c s dv)) : u.cell? ⟨g, 0, none⟩ = some (.int .i64 kd) ∧ u.cell? ⟨g, 1, none⟩ = some (.int .u8 x) ∧ u.cell? ⟨g, 2, none⟩ = some (.int .i64 ho) :=
  ⟨h.cell 0, h.cell 1, h.cell 2⟩
set_option maxRecDepth 100000 in
set_option maxHeartbeats 4000000 in
theorem se_judged (kd ho : Int) (x c s : Nat) (A : Option Addr) (n cc : Nat) (w : World) (hr : RdS w) :
    Calls Tryd.prog 58 #[.agg (evs kd x ho c s (.slice A n cc))] w fun e w' => e = .returned (.agg (Sm.jd kd x ho c s (.slice A n cc))) ∧ Kept Nothing w w' := by
  obtain ⟨E0, R0, K0⟩ := boxes2 w 31 31 (evs kd x ho c s (.slice A n cc)) (evs 0 0 0 0 0 (.slice none 0 0))
  have HMH := Lib.hid se_mayHold
  obtain ⟨⟨ga0, ga1⟩, ⟨gb0, gb1⟩, -, -⟩ := hr.old K0
  clear hr
  go_enter Tryd.func58, Tryd.ntmps58
  go_upto_region 1 with fail
  change Code.wp _ _ _ _ ((w.alloc (.cells (evs kd x ho c s (.slice A n cc)) 31)).alloc (.cells (evs 0 0 0 0 0 (.slice none 0 0)) 31))
  generalize (w.alloc (.cells (evs kd x ho c s (.slice A n cc)) 31)).alloc (.cells (evs 0 0 0 0 0 (.slice none 0 0)) 31) = W0 at *
  obtain ⟨e0, e1, e2⟩ := ecells2 E0
  have fin : ∀ cs : Array Value, Hid (Blk (W0.setRow (w.heap.size + 1) cs) (w.heap.size + 1) 31 cs ∧ Kept Nothing w (W0.setRow (w.heap.size + 1) cs)) := fun cs => Lib.hid ⟨setRow_heap W0 _ _ _ _ _ R0, K0.trans_new (Kept.setRow _ _) (fun i hi (e : i = w.heap.size + 1) => by omega)⟩
  have E1 := Lib.hid E0
  have R1 := Lib.hid R0
  clear E0 R0 K0
  by_cases h5 : kd = 5
  · subst h5
    by_cases hx : x < 1 ∨ 5 < x
    · have hj : Sm.jd 5 x ho c s (.slice A n cc) = evs 7 0 0 1 3 (.slice none 0 0) := by unfold Sm.jd; rw [if_pos ⟨rfl, hx⟩]
      have HJ := Lib.hid hj
      clear hj
      have hxi : (x : Int) < 1 ∨ 1 ≤ (x : Int) ∧ 5 < (x : Int) := by omega
      clear hx
      rcases hxi with hx | ⟨hx, hx2⟩
      all_goals
        go_wp2_with (refine wpList_store_row rfl 31 _ _ rfl (w.heap.size + 1) (evs 7 0 0 1 3 (.slice none 0 0)) rfl rfl 31 _ R1.out (by kernel_rfl) rfl (one_ev _ _ _ _ _ _ _ _) ?_)
        refine bodyPost_ret (v := .agg (evs 7 0 0 1 3 (.slice none 0 0))) (ret_ev (p := 2) rfl _ _ (w.heap.size + 1) _ _ _ _ _ _ rfl (fin (evs 7 0 0 1 3 (.slice none 0 0))).out.1) rfl ⟨by rw [HJ.out], (fin (evs 7 0 0 1 3 (.slice none 0 0))).out.2⟩
    · have hx1 : (1 : Int) ≤ (x : Int) := by omega
      have hx5 : (x : Int) ≤ 5 := by omega
      by_cases h1 : x = 1
      · subst h1
        have HM := HMH.out ho W0
        by_cases hm : ho = 0 ∨ (3 ≤ ho ∧ ho ≤ 65535)
        · rw [decide_eq_true hm] at HM
          have hj : Sm.jd 5 1 ho c s (.slice A n cc) = evs 5 1 ho c s (.slice A n cc) := by unfold Sm.jd; rw [if_neg (fun h => hx h.2), if_neg (fun h => h.2.2 hm)]
          have HJ := Lib.hid hj
          clear hj hm hx
          go_wp2_with (first
            | (go_at_call 84; refine HM.mono ?_; rintro e w' ⟨rfl, rfl⟩)
            | (refine wpList_load_row rfl 31 _ rfl w.heap.size rfl 31 _ (0, 0) _ E1.out Tryd.underlying31 rfl (by kernel_rfl) ?_)
            | (refine wpList_store_row rfl 31 _ _ rfl (w.heap.size + 1) (evs 5 1 ho c s (.slice A n cc)) rfl rfl 31 _ R1.out (by kernel_rfl) rfl (one_ev _ _ _ _ _ _ _ _) ?_))
          refine bodyPost_ret (v := .agg (evs 5 1 ho c s (.slice A n cc))) (ret_ev (p := 2) rfl _ _ (w.heap.size + 1) _ _ _ _ _ _ rfl (fin (evs 5 1 ho c s (.slice A n cc))).out.1) rfl ⟨by rw [HJ.out], (fin (evs 5 1 ho c s (.slice A n cc))).out.2⟩
        · rw [decide_eq_false hm] at HM
          have hj : Sm.jd 5 1 ho c s (.slice A n cc) = evs 7 0 0 2 6 (.slice none 0 0) := by unfold Sm.jd; rw [if_neg (fun h => hx h.2), if_pos ⟨rfl, rfl, hm⟩]
          have HJ := Lib.hid hj
          clear hj hm hx
          go_wp2_with (first
            | (go_at_call 84; refine HM.mono ?_; rintro e w' ⟨rfl, rfl⟩)
            | (refine wpList_store_row rfl 31 _ _ rfl (w.heap.size + 1) (evs 7 0 0 2 6 (.slice none 0 0)) rfl rfl 31 _ R1.out (by kernel_rfl) rfl (one_ev _ _ _ _ _ _ _ _) ?_))
          refine bodyPost_ret (v := .agg (evs 7 0 0 2 6 (.slice none 0 0))) (ret_ev (p := 2) rfl _ _ (w.heap.size + 1) _ _ _ _ _ _ rfl (fin (evs 7 0 0 2 6 (.slice none 0 0))).out.1) rfl ⟨by rw [HJ.out], (fin (evs 7 0 0 2 6 (.slice none 0 0))).out.2⟩
      · have hj : Sm.jd 5 x ho c s (.slice A n cc) = evs 5 x ho c s (.slice A n cc) := by unfold Sm.jd; rw [if_neg (fun h => hx h.2), if_neg (fun h => h1 h.2.1)]
        have h1i : ((x : Int) == 1) = false := by simp; omega
        have HJ := Lib.hid hj
        clear hj hx h1
        go_wp2_with (first
          | (refine wpList_load_row rfl 31 _ rfl w.heap.size rfl 31 _ (0, 0) _ E1.out Tryd.underlying31 rfl (by kernel_rfl) ?_)
          | (refine wpList_store_row rfl 31 _ _ rfl (w.heap.size + 1) (evs 5 x ho c s (.slice A n cc)) rfl rfl 31 _ R1.out (by kernel_rfl) rfl (one_ev _ _ _ _ _ _ _ _) ?_))
        refine bodyPost_ret (v := .agg (evs 5 x ho c s (.slice A n cc))) (ret_ev (p := 2) rfl _ _ (w.heap.size + 1) _ _ _ _ _ _ rfl (fin (evs 5 x ho c s (.slice A n cc))).out.1) rfl ⟨by rw [HJ.out], (fin (evs 5 x ho c s (.slice A n cc))).out.2⟩
  · have hj : Sm.jd kd x ho c s (.slice A n cc) = evs kd x ho c s (.slice A n cc) := by unfold Sm.jd; rw [if_neg (fun h => h5 h.1), if_neg (fun h => h5 h.1)]
    have h5i : (kd != 5) = true := by simpa using h5
    have HJ := Lib.hid hj
    clear hj h5
    go_wp2_with (first
      | (refine wpList_load_row rfl 31 _ rfl w.heap.size rfl 31 _ (0, 0) _ E1.out Tryd.underlying31 rfl (by kernel_rfl) ?_)
      | (refine wpList_store_row rfl 31 _ _ rfl (w.heap.size + 1) (evs kd x ho c s (.slice A n cc)) rfl rfl 31 _ R1.out (by kernel_rfl) rfl (one_ev _ _ _ _ _ _ _ _) ?_))
    refine bodyPost_ret (v := .agg (evs kd x ho c s (.slice A n cc))) (ret_ev (p := 2) rfl _ _ (w.heap.size + 1) _ _ _ _ _ _ rfl (fin (evs kd x ho c s (.slice A n cc))).out.1) rfl ⟨by rw [HJ.out], (fin (evs kd x ho c s (.slice A n cc))).out.2⟩
end Go.Proofs.YtembdobkgpojfaaDoor
