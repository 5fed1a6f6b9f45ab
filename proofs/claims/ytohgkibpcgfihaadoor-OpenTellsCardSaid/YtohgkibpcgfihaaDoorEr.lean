
/-
  The document's Number, Check, Put and Ours of chapter 6.
-/
import Derived.Test.YtohgkibpcgfihaaDoorEp
import Derived.Test.YtohgkibpcgfihaaDoorEb
import Derived.Test.YtohgkibpcgfihaaDoorDc
import Derived.Test.YtohgkibpcgfihaaDoorDf
namespace Go.Proofs.YtohgkibpcgfihaaDoor
open Go.RowKit

set_option maxHeartbeats 1000000 in
theorem rop_number (z0 z2 z3 : Int) (a : Nat) (ha : a < 65536) (v : Value) (l : List Cp) (w : World) (hv : Cps w v l) (hl : l.length ≤ 1000000) :
    Calls Tryd.prog 18 #[.agg #[.int .i64 z0, .int .i64 (a : Int), .int .i64 z2, .int .u32 z3, v]] w fun e w' => e = .returned (.tuple #[.int .u32 ((Opn.own a (Cp.number l)).1 : Nat), .bool (Opn.own a (Cp.number l)).2]) ∧ Kept Nothing w w' := by
  have HN := Lib.hid (fun w h => rcp_number v l w h hl)
  have HV := Lib.hid (fun w' (k : Kept Nothing w w') => hv.old k)
  obtain ⟨A, c, rfl, _, _⟩ := hv.form
  generalize Cp.number l = R at *
  obtain ⟨n, t⟩ := R
  have HK := Lib.hid ((Kept.refl Nothing w).alloc (.cells #[.int .i64 z0, .int .i64 (a : Int), .int .i64 z2, .int .u32 z3, .slice A l.length c] 35))
  have HB := Lib.hid (Blk.fresh w 35 #[.int .i64 z0, .int .i64 (a : Int), .int .i64 z2, .int .u32 z3, .slice A l.length c])
  clear hv
  simp only at HN
  rcases t with _ | _
  · by_cases h0 : a = 0
    · have e : Opn.own a (n, false) = (0, false) := by simp [Opn.own, h0]
      rw [e]
      subst h0
      go_enter Tryd.func18, Tryd.ntmps18
      go_wp2_with (go_at_call 52; refine (HN.out _ (HV.out _ HK.out)).mono ?_; rintro e w1 ⟨rfl, hk⟩; obtain ⟨⟨a0, a1, a2, a3, a4⟩, -⟩ := full5 (HB.out.kept hk (fun x => x)))
      go_ret2
      exact ⟨rfl, HK.out.trans hk⟩
    · by_cases ht : a = 23456
      · have e : Opn.own a (n, false) = (0, false) := by simp [Opn.own, ht]
        rw [e]
        subst ht
        go_enter Tryd.func18, Tryd.ntmps18
        go_wp2_with (go_at_call 52; refine (HN.out _ (HV.out _ HK.out)).mono ?_; rintro e w1 ⟨rfl, hk⟩; obtain ⟨⟨a0, a1, a2, a3, a4⟩, -⟩ := full5 (HB.out.kept hk (fun x => x)))
        go_ret2
        exact ⟨rfl, HK.out.trans hk⟩
      · have e : Opn.own a (n, false) = (a, true) := by simp [Opn.own, h0, ht]
        rw [e]
        have h0i : ((a : Int) == 0) = false := by simp; omega
        have hti : ((a : Int) == 23456) = false := by simp; omega
        go_enter Tryd.func18, Tryd.ntmps18
        go_wp2_with (go_at_call 52; refine (HN.out _ (HV.out _ HK.out)).mono ?_; rintro e w1 ⟨rfl, hk⟩; obtain ⟨⟨a0, a1, a2, a3, a4⟩, -⟩ := full5 (HB.out.kept hk (fun x => x)))
        go_ret2
        exact ⟨rfl, HK.out.trans hk⟩
  · by_cases h0 : n = 0
    · have e : Opn.own a (n, true) = (0, false) := by simp [Opn.own, h0]
      rw [e]
      subst h0
      go_enter Tryd.func18, Tryd.ntmps18
      go_wp2_with (go_at_call 52; refine (HN.out _ (HV.out _ HK.out)).mono ?_; rintro e w1 ⟨rfl, hk⟩; obtain ⟨⟨a0, a1, a2, a3, a4⟩, -⟩ := full5 (HB.out.kept hk (fun x => x)))
      go_ret2
      exact ⟨rfl, HK.out.trans hk⟩
    · have h0i : ((n : Int) != 0) = true := by simp; omega
      by_cases ht : a = 23456
      · have e : Opn.own a (n, true) = (n, true) := by simp [Opn.own, ht, h0]
        rw [e]
        subst ht
        go_enter Tryd.func18, Tryd.ntmps18
        go_wp2_with (go_at_call 52; refine (HN.out _ (HV.out _ HK.out)).mono ?_; rintro e w1 ⟨rfl, hk⟩; obtain ⟨⟨a0, a1, a2, a3, a4⟩, -⟩ := full5 (HB.out.kept hk (fun x => x)))
        go_ret2
        exact ⟨rfl, HK.out.trans hk⟩
      · have hti : ((a : Int) == 23456) = false := by simp; omega
        by_cases hn : a = n
        · have e : Opn.own a (n, true) = (n, true) := by simp [Opn.own, hn, h0]
          rw [e]
          subst hn
          go_enter Tryd.func18, Tryd.ntmps18
          go_wp2_with (go_at_call 52; refine (HN.out _ (HV.out _ HK.out)).mono ?_; rintro e w1 ⟨rfl, hk⟩; obtain ⟨⟨a0, a1, a2, a3, a4⟩, -⟩ := full5 (HB.out.kept hk (fun x => x)))
          go_ret2
          exact ⟨rfl, HK.out.trans hk⟩
        · have e : Opn.own a (n, true) = (0, false) := by simp [Opn.own, ht, hn]
          rw [e]
          have hni : ((a : Int) == (n : Int)) = false := by simp; omega
          go_enter Tryd.func18, Tryd.ntmps18
          go_wp2_with (go_at_call 52; refine (HN.out _ (HV.out _ HK.out)).mono ?_; rintro e w1 ⟨rfl, hk⟩; obtain ⟨⟨a0, a1, a2, a3, a4⟩, -⟩ := full5 (HB.out.kept hk (fun x => x)))
          go_ret2
          exact ⟨rfl, HK.out.trans hk⟩

def dataR (s : Nat) : List UInt8 := if s = 7 then [1, 4, 0, 1, 0, 1] else []
theorem data_r {o : Opn} {n me : Nat} {ins : Bool} : Opn.data (o.sub n me ins) = dataR (o.sub n me ins) := by
  rw [sub_first]
  unfold firstW Opn.data dataR
  repeat' split
  all_goals first | rfl | omega
theorem quo_big (id : Nat) : (decide ((224 : Int) ≤ (id : Int) / 16777216)) = decide (3758096384 ≤ id) := by
  rw [decide_eq_decide]
  omega
set_option maxRecDepth 20000 in
set_option maxHeartbeats 4000000 in
theorem rop_check (o : Opn) (ho : o.fine) (v : Value) (n me : Nat) (ins : Bool) (w : World) (hv : Cps w v o.caps) (hl : o.caps.length ≤ 1000000) :
    Calls Tryd.prog 20 #[.agg #[.int .i64 (o.ver : Int), .int .i64 (o.asn : Int), .int .i64 (o.hold : Int), .int .u32 (o.id : Int), v], .int .u32 (n : Int), .int .u32 (me : Int), .bool ins] w fun e w' =>
      ∃ d, e = .returned (.tuple #[.int .i64 (codeOf (o.sub n me ins) : Nat), .int .i64 (o.sub n me ins : Nat), d]) ∧ By w' d (Opn.data (o.sub n me ins)) ∧ Kept Nothing w w' := by
  rw [data_r]
  obtain ⟨A, c, rfl, _, _⟩ := hv.form
  have KK := (Kept.refl Nothing w).alloc (.cells #[.int .i64 (o.ver : Int), .int .i64 (o.asn : Int), .int .i64 (o.hold : Int), .int .u32 (o.id : Int), .slice A o.caps.length c] 35)
  have HK := Lib.hid KK
  have HN := Lib.hid (rop_number (o.ver : Int) (o.hold : Int) (o.id : Int) o.asn ho.2.1 _ o.caps _ (hv.old KK) hl)
  have HI := Lib.hid (fun w1 (k : Kept Nothing (w.alloc (.cells #[.int .i64 (o.ver : Int), .int .i64 (o.asn : Int), .int .i64 (o.hold : Int), .int .u32 (o.id : Int), .slice A o.caps.length c] 35)) w1) => rcp_ipv4 _ o.caps w1 ((hv.old KK).old k) hl)
  have HB := Lib.hid (Blk.fresh w 35 #[.int .i64 (o.ver : Int), .int .i64 (o.asn : Int), .int .i64 (o.hold : Int), .int .u32 (o.id : Int), .slice A o.caps.length c])
  have hidl := ho.2.2.2
  rw [sub_first]
  unfold w3 w6 Opn.number
  obtain ⟨ver, asn, hold, id, caps⟩ := o
  simp only at HK HN HI HB hidl ⊢
  generalize Opn.own asn (Cp.number caps) = R at *
  generalize Cp.ipv4 false caps = ip at *
  obtain ⟨m, t⟩ := R
  simp only at HN ⊢
  obtain ⟨S, HS⟩ : ∃ S, Hid (firstW (!(decide (m = n) && t)) (decide (id = 0) || decide (3758096384 ≤ id) || (ins && decide (id = me))) (decide (hold = 1) || decide (hold = 2)) (!ip) = S) := ⟨_, Lib.hid rfl⟩
  rw [HS.out]
  clear hv hl ho KK

  cases t with
  | false =>
    obtain rfl : 2 = S := by rw [← HS.out]; simp [firstW]
    clear HS
    go_enter Tryd.func20, Tryd.ntmps20
    go_wp2_with fail
    refine HN.out.mono ?_
    rintro _ w1 ⟨rfl, hk⟩
    have K1 := Lib.hid (HK.out.trans hk)
    have H1 := Lib.hid (HI.out w1 hk)
    obtain ⟨⟨a0, a1, a2, a3, a4⟩, -⟩ := full5 (HB.out.kept hk (fun x => x))
    clear hk HB HN HI HK
    go_wp2
    exact bodyPost_ret (v := .tuple #[.int .i64 2, .int .i64 2, .slice none 0 0]) (by simp [results, Tryd.results20, go_sem]) rfl ⟨_, rfl, (Bs.nil _).by, K1.out⟩
  | true =>
    by_cases hmn : m = n
    · subst hmn
      have hmm : ((m : Int) != (m : Int)) = false := by simp
      by_cases h0 : id = 0
      · subst h0
        obtain rfl : 3 = S := by rw [← HS.out]; simp [firstW]
        clear HS
        go_enter Tryd.func20, Tryd.ntmps20
        go_wp2_with fail
        refine HN.out.mono ?_
        rintro _ w1 ⟨rfl, hk⟩
        have K1 := Lib.hid (HK.out.trans hk)
        have H1 := Lib.hid (HI.out w1 hk)
        obtain ⟨⟨a0, a1, a2, a3, a4⟩, -⟩ := full5 (HB.out.kept hk (fun x => x))
        clear hk HB HN HI HK
        go_wp2
        exact bodyPost_ret (v := .tuple #[.int .i64 2, .int .i64 3, .slice none 0 0]) (by simp [results, Tryd.results20, go_sem]) rfl ⟨_, rfl, (Bs.nil _).by, K1.out⟩
      · have h0i : ((id : Int) == 0) = false := by simp; omega
        by_cases h1 : 3758096384 ≤ id
        · have h1i : (224 : Int) ≤ (id : Int) / 16777216 := by omega
          obtain rfl : 3 = S := by rw [← HS.out]; simp [firstW, h0, h1]
          clear HS
          go_enter Tryd.func20, Tryd.ntmps20
          go_wp2_with fail
          refine HN.out.mono ?_
          rintro _ w1 ⟨rfl, hk⟩
          have K1 := Lib.hid (HK.out.trans hk)
          have H1 := Lib.hid (HI.out w1 hk)
          obtain ⟨⟨a0, a1, a2, a3, a4⟩, -⟩ := full5 (HB.out.kept hk (fun x => x))
          clear hk HB HN HI HK
          go_wp2
          exact bodyPost_ret (v := .tuple #[.int .i64 2, .int .i64 3, .slice none 0 0]) (by simp [results, Tryd.results20, go_sem]) rfl ⟨_, rfl, (Bs.nil _).by, K1.out⟩
        · have h1i : ¬ ((224 : Int) ≤ (id : Int) / 16777216) := by omega
          cases ins with
          | false =>
            by_cases h3 : hold = 1
            · subst h3
              obtain rfl : 6 = S := by rw [← HS.out]; simp [firstW, h0, h1]
              clear HS
              go_enter Tryd.func20, Tryd.ntmps20
              go_wp2_with fail
              refine HN.out.mono ?_
              rintro _ w1 ⟨rfl, hk⟩
              have K1 := Lib.hid (HK.out.trans hk)
              have H1 := Lib.hid (HI.out w1 hk)
              obtain ⟨⟨a0, a1, a2, a3, a4⟩, -⟩ := full5 (HB.out.kept hk (fun x => x))
              clear hk HB HN HI HK
              go_wp2
              exact bodyPost_ret (v := .tuple #[.int .i64 2, .int .i64 6, .slice none 0 0]) (by simp [results, Tryd.results20, go_sem]) rfl ⟨_, rfl, (Bs.nil _).by, K1.out⟩
            · have h3i : ((hold : Int) == 1) = false := by simp; omega
              by_cases h4 : hold = 2
              · subst h4
                obtain rfl : 6 = S := by rw [← HS.out]; simp [firstW, h0, h1]
                clear HS
                go_enter Tryd.func20, Tryd.ntmps20
                go_wp2_with fail
                refine HN.out.mono ?_
                rintro _ w1 ⟨rfl, hk⟩
                have K1 := Lib.hid (HK.out.trans hk)
                have H1 := Lib.hid (HI.out w1 hk)
                obtain ⟨⟨a0, a1, a2, a3, a4⟩, -⟩ := full5 (HB.out.kept hk (fun x => x))
                clear hk HB HN HI HK
                go_wp2
                exact bodyPost_ret (v := .tuple #[.int .i64 2, .int .i64 6, .slice none 0 0]) (by simp [results, Tryd.results20, go_sem]) rfl ⟨_, rfl, (Bs.nil _).by, K1.out⟩
              · have h4i : ((hold : Int) == 2) = false := by simp; omega
                cases ip with
                | false =>
                  obtain rfl : 7 = S := by rw [← HS.out]; simp [firstW, h0, h1, h3, h4]
                  clear HS
                  go_enter Tryd.func20, Tryd.ntmps20
                  go_wp2_with fail
                  refine HN.out.mono ?_
                  rintro _ w1 ⟨rfl, hk⟩
                  have K1 := Lib.hid (HK.out.trans hk)
                  have H1 := Lib.hid (HI.out w1 hk)
                  obtain ⟨⟨a0, a1, a2, a3, a4⟩, -⟩ := full5 (HB.out.kept hk (fun x => x))
                  clear hk HB HN HI HK
                  go_wp2_with (go_at_call 61; refine H1.out.mono ?_; rintro _ w2 ⟨rfl, hk2⟩; have K2 := Lib.hid (K1.out.trans hk2); clear hk2)
                  exact bodyPost_ret (v := .tuple #[.int .i64 2, .int .i64 7, .slice (some ⟨w2.heap.size, 0, none⟩) 6 6]) (by simp [results, Tryd.results20, go_sem]) rfl ⟨_, rfl, (Bs.made (l := [1, 4, 0, 1, 0, 1]) (Blk.fresh w2 5 #[.int .u8 1, .int .u8 4, .int .u8 0, .int .u8 1, .int .u8 0, .int .u8 1]) rfl (by simp [maxLen])).by, K2.out.alloc _⟩
                | true =>
                  obtain rfl : 0 = S := by rw [← HS.out]; simp [firstW, h0, h1, h3, h4]
                  clear HS
                  go_enter Tryd.func20, Tryd.ntmps20
                  go_wp2_with fail
                  refine HN.out.mono ?_
                  rintro _ w1 ⟨rfl, hk⟩
                  have K1 := Lib.hid (HK.out.trans hk)
                  have H1 := Lib.hid (HI.out w1 hk)
                  obtain ⟨⟨a0, a1, a2, a3, a4⟩, -⟩ := full5 (HB.out.kept hk (fun x => x))
                  clear hk HB HN HI HK
                  go_wp2_with (go_at_call 61; refine H1.out.mono ?_; rintro _ w2 ⟨rfl, hk2⟩; have K2 := Lib.hid (K1.out.trans hk2); clear hk2)
                  exact bodyPost_ret (v := .tuple #[.int .i64 0, .int .i64 0, .slice none 0 0]) (by simp [results, Tryd.results20, go_sem]) rfl ⟨_, rfl, (Bs.nil _).by, K2.out⟩
          | true =>
            by_cases h2 : id = me
            · subst h2
              obtain rfl : 3 = S := by rw [← HS.out]; simp [firstW, h0, h1]
              clear HS
              go_enter Tryd.func20, Tryd.ntmps20
              go_wp2_with fail
              refine HN.out.mono ?_
              rintro _ w1 ⟨rfl, hk⟩
              have K1 := Lib.hid (HK.out.trans hk)
              have H1 := Lib.hid (HI.out w1 hk)
              obtain ⟨⟨a0, a1, a2, a3, a4⟩, -⟩ := full5 (HB.out.kept hk (fun x => x))
              clear hk HB HN HI HK
              go_wp2
              exact bodyPost_ret (v := .tuple #[.int .i64 2, .int .i64 3, .slice none 0 0]) (by simp [results, Tryd.results20, go_sem]) rfl ⟨_, rfl, (Bs.nil _).by, K1.out⟩
            · have h2i : ((id : Int) == (me : Int)) = false := by simp; omega
              by_cases h3 : hold = 1
              · subst h3
                obtain rfl : 6 = S := by rw [← HS.out]; simp [firstW, h0, h1, h2]
                clear HS
                go_enter Tryd.func20, Tryd.ntmps20
                go_wp2_with fail
                refine HN.out.mono ?_
                rintro _ w1 ⟨rfl, hk⟩
                have K1 := Lib.hid (HK.out.trans hk)
                have H1 := Lib.hid (HI.out w1 hk)
                obtain ⟨⟨a0, a1, a2, a3, a4⟩, -⟩ := full5 (HB.out.kept hk (fun x => x))
                clear hk HB HN HI HK
                go_wp2
                exact bodyPost_ret (v := .tuple #[.int .i64 2, .int .i64 6, .slice none 0 0]) (by simp [results, Tryd.results20, go_sem]) rfl ⟨_, rfl, (Bs.nil _).by, K1.out⟩
              · have h3i : ((hold : Int) == 1) = false := by simp; omega
                by_cases h4 : hold = 2
                · subst h4
                  obtain rfl : 6 = S := by rw [← HS.out]; simp [firstW, h0, h1, h2]
                  clear HS
                  go_enter Tryd.func20, Tryd.ntmps20
                  go_wp2_with fail
                  refine HN.out.mono ?_
                  rintro _ w1 ⟨rfl, hk⟩
                  have K1 := Lib.hid (HK.out.trans hk)
                  have H1 := Lib.hid (HI.out w1 hk)
                  obtain ⟨⟨a0, a1, a2, a3, a4⟩, -⟩ := full5 (HB.out.kept hk (fun x => x))
                  clear hk HB HN HI HK
                  go_wp2
                  exact bodyPost_ret (v := .tuple #[.int .i64 2, .int .i64 6, .slice none 0 0]) (by simp [results, Tryd.results20, go_sem]) rfl ⟨_, rfl, (Bs.nil _).by, K1.out⟩
                · have h4i : ((hold : Int) == 2) = false := by simp; omega
                  cases ip with
                  | false =>
                    obtain rfl : 7 = S := by rw [← HS.out]; simp [firstW, h0, h1, h2, h3, h4]
                    clear HS
                    go_enter Tryd.func20, Tryd.ntmps20
                    go_wp2_with fail
                    refine HN.out.mono ?_
                    rintro _ w1 ⟨rfl, hk⟩
                    have K1 := Lib.hid (HK.out.trans hk)
                    have H1 := Lib.hid (HI.out w1 hk)
                    obtain ⟨⟨a0, a1, a2, a3, a4⟩, -⟩ := full5 (HB.out.kept hk (fun x => x))
                    clear hk HB HN HI HK
                    go_wp2_with (go_at_call 61; refine H1.out.mono ?_; rintro _ w2 ⟨rfl, hk2⟩; have K2 := Lib.hid (K1.out.trans hk2); clear hk2)
                    exact bodyPost_ret (v := .tuple #[.int .i64 2, .int .i64 7, .slice (some ⟨w2.heap.size, 0, none⟩) 6 6]) (by simp [results, Tryd.results20, go_sem]) rfl ⟨_, rfl, (Bs.made (l := [1, 4, 0, 1, 0, 1]) (Blk.fresh w2 5 #[.int .u8 1, .int .u8 4, .int .u8 0, .int .u8 1, .int .u8 0, .int .u8 1]) rfl (by simp [maxLen])).by, K2.out.alloc _⟩
                  | true =>
                    obtain rfl : 0 = S := by rw [← HS.out]; simp [firstW, h0, h1, h2, h3, h4]
                    clear HS
                    go_enter Tryd.func20, Tryd.ntmps20
                    go_wp2_with fail
                    refine HN.out.mono ?_
                    rintro _ w1 ⟨rfl, hk⟩
                    have K1 := Lib.hid (HK.out.trans hk)
                    have H1 := Lib.hid (HI.out w1 hk)
                    obtain ⟨⟨a0, a1, a2, a3, a4⟩, -⟩ := full5 (HB.out.kept hk (fun x => x))
                    clear hk HB HN HI HK
                    go_wp2_with (go_at_call 61; refine H1.out.mono ?_; rintro _ w2 ⟨rfl, hk2⟩; have K2 := Lib.hid (K1.out.trans hk2); clear hk2)
                    exact bodyPost_ret (v := .tuple #[.int .i64 0, .int .i64 0, .slice none 0 0]) (by simp [results, Tryd.results20, go_sem]) rfl ⟨_, rfl, (Bs.nil _).by, K2.out⟩
    · have hmi : ((m : Int) != (n : Int)) = true := by simp; omega
      obtain rfl : 2 = S := by rw [← HS.out]; simp [firstW, hmn]
      clear HS
      go_enter Tryd.func20, Tryd.ntmps20
      go_wp2_with fail
      refine HN.out.mono ?_
      rintro _ w1 ⟨rfl, hk⟩
      have K1 := Lib.hid (HK.out.trans hk)
      have H1 := Lib.hid (HI.out w1 hk)
      obtain ⟨⟨a0, a1, a2, a3, a4⟩, -⟩ := full5 (HB.out.kept hk (fun x => x))
      clear hk HB HN HI HK
      go_wp2
      exact bodyPost_ret (v := .tuple #[.int .i64 2, .int .i64 2, .slice none 0 0]) (by simp [results, Tryd.results20, go_sem]) rfl ⟨_, rfl, (Bs.nil _).by, K1.out⟩
end Go.Proofs.YtohgkibpcgfihaaDoor
