/- ExecParts: a plan of the first jobs tells just what the plan of all tells of them. -/
import Derived.Test.YtcjahdgppnmdkaaExQ
import Derived.Lib.MinMax
set_option maxRecDepth 100000
namespace Go.Proofs.Ytcjahdgppnmdkaa
open Go.RowKit Go.Great Go.Deep Go.WideShapes Go.ChangeShapes

/-- a slice has room for what it holds -/
def CapOk (u : Value) : Prop := ∀ a n c, u = .slice a n c → n ≤ c
/-- a list of jobs that came in, with what it has room for -/
def JbsM (w : World) (v : Value) (L : List Jb) : Prop := JbsN w v L ∧ CapOk v
set_option maxRecDepth 100000 in
theorem open_jobsM {H : Type} {enc : TypeId × Value → H} {W : World} {v : Value} {d : DataW H} {p : List MemPlace} {r : Reach} {b0 : Nat} (hok : Value.okWide Try.prog W r b0 68 v) (h : DataW.Trod enc Try.prog W 0 (fun _ => true) true 68 v d p) (hw : ∀ q ∈ DataW.weights Try.prog 68 d, q ≤ reachBytes) : ∃ L, JbsM W v L := by
  obtain ⟨L, hL⟩ := open_jobsN hok h hw
  refine ⟨L, hL, ?_⟩
  obtain ⟨ad, ln, cp, rfl⟩ := okWide_slice Try.underlying68 hok
  obtain ⟨fuel, hf⟩ := h
  rcases open_slice Try.underlying68 hf with ⟨hcs, _⟩ | ⟨a, len, cap, m, n, D, Pl, hcs, hb, hl, hmax, hm, hx, hel⟩
  · injection hcs with hcs _
    injection hcs with h1 h2 h3
    intro a n c e
    injection e with _ e1 e2
    omega
  · injection hcs with hcs _
    injection hcs with h1 h2 h3
    intro a' n' c' e
    injection e with _ e1 e2
    omega

theorem jslice_hi (a : Option Addr) (n cap q : Nat) (hq : q ≤ cap) (hn : a = none → cap = 0) (wx : World) : ∃ at2, (Instr.slice 68 (.slice a n cap) none (some (.int .i64 q)) none).run Try.prog wx = .ok (.slice at2 q cap) wx ∧ (at2 = a) := by
  have ht : Try.prog.underlying 68 = some (.slice (Try.prog.elem 68)) := by kernel_rfl
  have hs : (sizeOf (Try.prog.elem 68)).run Try.prog wx = .ok 3 wx := Try.sizeOf80 wx
  refine ⟨a, ?_, rfl⟩
  rw [run_slice_h wx 68 a n cap ht .i64 q (by omega) (by omega), hs]
  unfold sliced
  have e : (if cap = 0 then a else a.map (·.add (0 * 3))) = a := by
    cases a with
    | none => simp
    | some ad =>
      split
      · rfl
      · simp [Addr.add]
  simp only [Result.andThen]
  rw [e]
  simp
theorem plan_ok (L : List Jb) (v : Value) (w : World) (hv : JbsN w v L) (hc : chkJ L = 0) : Calls Try.prog 29 #[v] w fun e w' => ∃ P, e = .returned (.tuple #[pP P, .bool true]) ∧ w.heap.size ≤ P ∧ PlanW w' w.heap.size P L 0 ∧ Below w.heap.size w w' := by
  refine (plan_any L v w hv).mono ?_
  rintro e w' ⟨hb, ⟨h1, _⟩ | ⟨_, P, rfl, h2, h3⟩⟩
  · exact absurd hc h1
  · exact ⟨P, rfl, h2, h3, hb⟩
theorem plan_no (L : List Jb) (v : Value) (w : World) (hv : JbsN w v L) (hc : chkJ L ≠ 0) : Calls Try.prog 29 #[v] w fun e w' => e = .returned (.tuple #[.pointer none, .bool true]) ∧ Below w.heap.size w w' := by
  refine (plan_any L v w hv).mono ?_
  rintro e w' ⟨hb, ⟨_, rfl⟩ | ⟨h0, _⟩⟩
  · exact ⟨rfl, hb⟩
  · exact absurd h0 hc
set_option maxRecDepth 100000 in
set_option maxHeartbeats 4000000 in
theorem ExecParts_walk (v : Value) (first ticks : Int) (w : World) (hv : ∃ L, JbsM w v L) : Calls Try.prog 12 #[v, .int .i64 first, .int .i64 ticks] w fun e w' => e = .returned (.bool true) ∧ Below w.heap.size w w' := by
  obtain ⟨L, hv, hcap⟩ := hv
  have HV := hide hv
  have hml := hv.1.1.1.1
  unfold maxLen at hml
  obtain ⟨_, na, np, rfl, hcc⟩ := hv.1.1.1
  obtain ⟨n, hn⟩ : ∃ n, Hid (L.length = n) := ⟨_, hide rfl⟩
  rw [hn.out] at HV hml hcap ⊢
  have hnp : n ≤ np := hcap _ _ _ rfl
  clear hcap
  have hna0 : Hid (na = none → np = 0) := hide (fun e => HV.out.2 n np (by rw [e]))
  by_cases hc : chkJ L = 0
  · have HJ : Hid (JsOk L) := hide ⟨(chkJ_ok hc).1, (chkJ_ok hc).2, HV.out.1.1.2⟩
    have PL := hide (plan_ok L _ w HV.out hc)
    have HC := hide hc
    clear hc hcc hv
    go_enter Try.func12, Try.ntmps12
    go_upto_region 2 with (go_at_call 29; refine PL.out.mono ?_; rintro e w1 ⟨P, rfl, hP1, hP2, hb1⟩; have HP0 := hide hP1; have HPl := hide hP2; have Hb := hide hb1; clear hP1 hP2 hb1)
    have EP := eql_ptr P
    clear PL
    go_upto_region 7 with fail
    obtain ⟨k, hk, hkn⟩ : ∃ k : Nat, min (max first 0) (n : Int) = (k : Int) ∧ k ≤ n := ⟨(min (max first 0) (n : Int)).toNat, by omega, by omega⟩
    rw [hk]
    clear hk
    have HVk := hide (HV.out.take hn.out hkn)
    have PL2 := hide (plan_ok (L.take k) _ w1 (HVk.out.below Hb.out) (chkJ_take HC.out k))
    obtain ⟨at2, SH, eat⟩ := jslice_hi na n np k (by omega) hna0.out w1
    subst eat
    have HJk := hide (HJ.out.take k)
    have HPlt := hide HPl.out.lt
    go_upto_region 8 with (go_at_call 29; refine PL2.out.mono ?_; rintro e w2 ⟨Q, rfl, hQ1, hQ2, hb2⟩; have HQ0 := hide hQ1; have HQl := hide hQ2; have HPl2 := hide (HPl.out.after hb2); have Hb2 := hide (below_next Hb.out (Nat.le_refl _) hb2); clear hQ1 hQ2 hb2)
    have EQ := eql_ptr Q
    have HPQ : Hid (P ≠ Q) := hide (by have := HPlt.out; have := HQ0.out; omega)
    have hws1 := hide Hb.out.size
    clear PL2 SH HPl Hb HPlt
    obtain ⟨M, hM⟩ : ∃ M, Hid (M = 4096) := ⟨_, hide rfl⟩
    go_wp2_with fail
    obtain ⟨b1, hb1⟩ : ∃ b1, Hid (w1.heap.size = b1) := ⟨_, hide rfl⟩
    rw [hb1.out] at HQ0 HQl hws1
    go_loopw [12] (fun v12 wr => ∃ t : Nat, v12 = .int .i64 (t : Int) ∧ t ≤ M ∧ Hid (PlanW wr w.heap.size P L t) ∧ Hid (PlanW wr b1 Q (L.take k) t) ∧ Hid (Below w.heap.size w wr)) (fun v12 _ => M - (intOf v12).toNat)
    case atStart => exact ⟨0, rfl, by omega, HPl2, HQl, Hb2⟩
    case round =>
      clear HPl2 HQl Hb2
      obtain ⟨t, rfl, htM, HPl, HQl, Hb⟩ := hrel
      have hMi : (M : Int) = 4096 := by rw [hM.out]; rfl
      have REST : Hid (∀ q, Below w.heap.size w q → PlanW q w.heap.size P L t → PlanW q b1 Q (L.take k) t → Calls Try.prog 30 #[] q fun e w' => e = .returned (.bool true) ∧ Below w.heap.size w w' ∧ PlanW w' w.heap.size P L t ∧ PlanW w' b1 Q (L.take k) t) := hide (fun q h1 h2 h3 => (awake22_any q).mono fun e w' h => ⟨h.1, below_next h1 (Nat.le_refl _) h.2, h2.after h.2, h3.after h.2⟩)
      have AW := hide (REST.out wr Hb.out HPl.out HQl.out)
      have hett : ((t : Int) == (t : Int)) = true := by simp
      by_cases hlt : (t : Int) < ticks
      · by_cases hlt2 : (t : Int) < 4096
        · obtain ⟨lo, hlo⟩ : ∃ lo, Hid (dueS L t = lo) := ⟨_, hide rfl⟩
          have hl64 : lo.length ≤ 64 := by rw [← hlo.out]; exact dueS_len HJ.out t
          have HLO : Hid (∀ x ∈ lo, x < n) := hide (fun x hx => by rw [← hlo.out] at hx; have := (dueN_mem.1 hx).1; rw [hn.out] at this; exact this)
          have HTK : Hid (dueS (L.take k) t = lo.filter (fun x => decide (x < k))) := hide (by rw [dueS_take L t k (by rw [hn.out]; exact hkn), hlo.out])
          obtain ⟨ll, hll⟩ : ∃ ll, Hid (lo.length = ll) := ⟨_, hide rfl⟩
          rw [hll.out] at hl64
          have DU := hide (due_l wr w.heap.size P L t HPl.out HJ.out (by omega) (by omega) (lo.map Int.ofNat) ll (by rw [hlo.out]) (by rw [List.length_map]; exact hll.out))
          have HQo : Hid (∀ q, wr.grownBy q (some P) → PlanW q b1 Q (L.take k) t) := hide (fun q hg => HQl.out.other HPl.out (fun e => HPQ.out e.symm) hg)
          have hd1 : decide ((t : Int) < ticks) = true := decide_eq_true hlt
          have hd2 : decide ((t : Int) < 4096) = true := decide_eq_true hlt2
          have htt : t < M := by omega
          have hwt : (t : Int) ≤ 4096 := by omega
          have hPsz := hide HP0.out
          clear hMi hlt hlt2 HPl HQl AW REST
          go_upto_region 14 with (go_at_call 32; refine DU.out.mono ?_; rintro e w3 ⟨ua, uc, rfl, hr, hp, hg⟩; have HR3 := hide hr; have HP3 := hide hp; have HQ3 := hide (HQo.out w3 hg); have hzr3 := hide hg.size; have Hb3 := hide (below_grown Hb.out hg (fun k e => by injection e with e; have := hPsz.out; omega)); clear hr hp hg)
          clear DU HQo Hb
          obtain ⟨hcu1, hcu2, hcu3, _, hcu4, _⟩ := HR3.out.cap
          have HUS : Hid (0 < lo.length → ∃ g, ua = some ⟨g, 0, none⟩) := hide (fun h => hcu4 (by rw [List.length_map]; exact h))
          obtain ⟨b3, hb3⟩ : ∃ b3, Hid (w3.heap.size = b3) := ⟨_, hide rfl⟩
          clear hcu1 hcu4
          go_upto_region 16 with fail
          go_loopw [14, 15] (fun v14 v15 wx => ∃ (i m c : Nat) (a : Option Addr), v15 = .int .i64 (i : Int) ∧ v14 = .slice a m c ∧ i ≤ ll ∧ Hid (IRow wx b3 v14 (((lo.take i).filter (fun x => decide (x < k))).map Int.ofNat)) ∧ Hid (Below w3.heap.size w3 wx)) (fun _ v15 _ => ll - (intOf v15).toNat)
          case atStart => exact ⟨0, 0, 0, none, rfl, rfl, by omega, hide (IRow.nil _ _), hide (Below.refl _ _)⟩
          case round =>
            obtain ⟨i, m, c, a, rfl, rfl, hil, HS, HBx⟩ := hrel
            by_cases hin : i < ll
            · have hio : i < lo.length := by rw [hll.out]; exact hin
              obtain ⟨g, rfl⟩ := HUS.out (by omega)
              have c0 := iAt (HR3.out.below HBx.out) i hio
              have HF1 : Hid ((lo.take (i + 1)).filter (fun x => decide (x < k)) = (lo.take i).filter (fun x => decide (x < k)) ++ [lo[i]].filter (fun x => decide (x < k))) := hide (by rw [List.take_add_one, List.getElem?_eq_getElem hio, Option.toList_some, List.filter_append])
              have hml : ((lo.take i).filter (fun x => decide (x < k))).length ≤ 64 := by
                have h1 := List.length_filter_le (fun x => decide (x < k)) (lo.take i)
                rw [List.length_take] at h1
                omega
              obtain ⟨hm, _, _, _, _, _⟩ := HS.out.cap
              rw [List.length_map] at hm
              rw [← hm] at hml
              clear hm
              obtain ⟨x, hx⟩ : ∃ x, Hid (lo[i] = x) := ⟨_, hide rfl⟩
              rw [hx.out] at c0 HF1
              obtain ⟨f0, hf0⟩ : ∃ f0, Hid ((lo.take i).filter (fun x => decide (x < k)) = f0) := ⟨_, hide rfl⟩
              rw [hf0.out] at HS HF1
              have hic : (i : Int) < uc := by omega
              have hxk : Hid (x < k ∨ ¬ x < k) := hide (by omega)
              rcases hxk.out with hlk | hlk
              · have hdk : (x : Int) < (k : Int) := by omega
                have HF2 : Hid ((lo.take (i + 1)).filter (fun x => decide (x < k)) = f0 ++ [x]) := hide (by rw [HF1.out, List.filter_cons_of_pos (by simpa using hlk), List.filter_nil])
                have hbx := HBx.out.size
                rw [hb3.out] at hbx
                have hsz3 : w3.heap.size = b3 := hb3.out
                have HO : Hid ((wr.alloc (.cells #[.int .i64 (x : Int)] 3)).ownsRow b3 3 1 (.slice a m c) m ((f0.map Int.ofNat).map (Value.int .i64))) := hide (by
                  have h1 := HS.out.alloc (.cells #[.int .i64 (x : Int)] 3)
                  have e1 := (HS.out.cap).1
                  unfold IRow at h1
                  rw [← e1] at h1
                  exact h1)
                have HC : Hid (∀ j u, [Value.int .i64 (x : Int)][j]? = some u → (wr.alloc (.cells #[.int .i64 (x : Int)] 3)).cell? ((⟨wr.heap.size, 0, none⟩ : Addr).add j) = some u) := hide (new_cell1 wr _ rfl (.int .i64 (x : Int)) 3)
                obtain ⟨i1, hi1, hz10, hz11, hz12⟩ := info_parts info_int
                have HmF : Hid (f0.length = m) := hide (by have := (HS.out.cap).1; rw [List.length_map] at this; exact this.symm)
                clear hsz3 HF1 hxk hlk
                go_wp2_with (at_builtin; refine wpList_append_own _ rfl (.tmp 67) (.tmp 72) 72 rfl b3 3 i1 _ 1 8 Try.underlying72 hi1 hz10 hz11 hz12 rfl (by decide) _ _ _ rfl HO.out ⟨wr.heap.size, 0, none⟩ 1 1 [.int .i64 (x : Int)] rfl rfl ?c1 ?c2 ?c3 ?c4 ?c5 ?_)
                case c1 => exact HC.out
                case c2 => simp [Value.oneCell']
                case c3 => unfold maxLen; omega
                case c4 => omega
                case c5 => rw [size_alloc]; omega
                intro v' w5 hown5 hgrow5 _
                obtain ⟨a5, c5, hv5⟩ : ∃ a5 c5, v' = .slice a5 (m + 1) c5 := by
                  rcases hown5.2 with ⟨_, e2⟩ | ⟨g5, cp, cur, e1, _⟩
                  · cases e2
                  · exact ⟨some ⟨g5, 0, none⟩, cp, e1⟩
                subst hv5
                have HS5 : Hid (IRow w5 b3 (.slice a5 (m + 1) c5) (((lo.take (i + 1)).filter (fun x => decide (x < k))).map Int.ofNat)) := hide (by
                  rw [HF2.out]
                  unfold IRow
                  have e1 : ((f0 ++ [x]).map Int.ofNat).length = m + 1 := by simp [HmF.out]
                  have e2 : ((f0 ++ [x]).map Int.ofNat).map (Value.int .i64) = f0.map (Value.int .i64 ∘ Int.ofNat) ++ [Value.int .i64 (x : Int)] := by simp
                  rw [e1, e2]
                  exact hown5)
                have HB5 : Hid (Below w3.heap.size w3 w5) := hide (((HBx.out.alloc (by rw [hb3.out]; exact hbx) _).grown hgrow5 (by rw [size_alloc, hb3.out]; omega) (fun j e => by rw [hb3.out]; exact (HO.out.lt j e).1)))
                clear hown5 hgrow5 HO HC hi1 hz10 hz11 hz12 HS HBx hbx HF2
                go_wp2_with fail
                go_roundw
                case rel => exact ⟨i + 1, m + 1, c5, a5, by simp, rfl, by omega, HS5, HB5⟩
                case measure => simp [intOf]; omega
              · have hdk : ¬ (x : Int) < (k : Int) := by omega
                have HS5 : Hid (∀ q, IRow wr b3 (.slice a m c) (f0.map Int.ofNat) → q = wr → IRow q b3 (.slice a m c) (((lo.take (i + 1)).filter (fun x => decide (x < k))).map Int.ofNat)) := hide (fun q h e => by rw [HF1.out, List.filter_cons_of_neg (by simpa using hlk), List.filter_nil, List.append_nil, e]; exact h)
                have HS6 := hide (HS5.out wr HS.out rfl)
                clear HF1 hxk hlk HS5 HS
                go_wp2_with fail
                go_roundw
                case rel => exact ⟨i + 1, m, c, a, by simp, rfl, by omega, HS6, HBx⟩
                case measure => simp [intOf]; omega
            · have hie : i = ll := by omega
              have HS2 : Hid (IRow wr b3 (.slice a m c) ((dueS (L.take k) t).map Int.ofNat)) := hide (by
                have := HS.out
                rw [List.take_of_length_le (by rw [hll.out]; omega), ← HTK.out] at this
                exact this)
              have hl64b : ((dueS (L.take k) t).map Int.ofNat).length ≤ 64 := by rw [List.length_map]; exact dueS_len HJk.out t
              obtain ⟨hm, _, _, _, _, _⟩ := HS2.out.cap
              obtain ⟨l2, hl2⟩ : ∃ l2, Hid ((dueS (L.take k) t).map Int.ofNat = l2) := ⟨_, hide rfl⟩
              rw [hl2.out] at HS2 hm hl64b
              have Hm := hide hm.symm
              rw [← hm] at hl64b
              clear hm
              have HP4 := hide (HP3.out.after HBx.out)
              have HQ4 := hide (HQ3.out.after HBx.out)
              have HB4 := hide (below_next Hb3.out (Nat.le_refl _) HBx.out)
              have DQ := hide (due_l wr b1 Q (L.take k) t HQ4.out HJk.out (by omega) (by omega) l2 m hl2.out Hm.out)
              have HPo : Hid (∀ q, wr.grownBy q (some Q) → PlanW q w.heap.size P L (t + 1)) := hide (fun q hg => HP4.out.other HQ4.out HPQ.out hg)
              have HSo : Hid (∀ q, wr.grownBy q (some Q) → IRow q b3 (.slice a m c) l2) := hide (fun q hg => due_row HQ4.out HS2.out hg)
              have hQsz : Hid (w.heap.size ≤ Q) := hide (Nat.le_trans hws1.out HQ0.out)
              have SI : Hid (∀ q x y, Ints q (.slice x m y) l2 → Ints q (.slice a m c) l2 → Calls Try.prog 33 #[.slice x m y, .slice a m c] q fun e w' => e = .returned (.bool true) ∧ ∃ k, w' = q.drewN k) := hide (fun q x y h1 h2 => sameInts_true l2 _ _ q h1 h2 (by rw [Hm.out]; omega))
              clear HS HS2 HP3 HQ3 HP4 HQ4 HBx Hb3 HR3 HUS HTK HLO
              go_upto_region 20 with fail
              go_wp2_with fail
              refine DQ.out.mono ?_
              rintro e w6 ⟨xa, xc, rfl, hr6, hq6, hg6⟩
              have HP6 := hide (HPo.out w6 hg6)
              have SI6 := hide (SI.out w6 xa xc hr6.ints (HSo.out w6 hg6).ints)
              have HQ6 := hide hq6
              have HB6 := hide (below_grown HB4.out hg6 (fun j e => by injection e with e; have := hQsz.out; omega))
              clear hr6 hq6 hg6 DQ HPo HSo SI HB4
              go_wp2_with fail
              refine SI6.out.mono ?_
              rintro e w7 ⟨rfl, k7, hw7⟩
              have B67 : Below w6.heap.size w6 w7 := by rw [hw7]; exact below_drewN (Below.refl _ _) k7
              have HP7 := hide (HP6.out.after B67)
              have HQ7 := hide (HQ6.out.after B67)
              have HB7 := hide (below_next HB6.out (Nat.le_refl _) B67)
              clear hw7 B67 SI6 HP6 HQ6 HB6
              go_wp2_with fail
              go_roundw
              case rel => exact ⟨t + 1, by simp, by omega, HP7, HQ7, HB7⟩
              case measure => simp [intOf]; omega
        · have hd1 : decide ((t : Int) < ticks) = true := decide_eq_true hlt
          have hd2 : decide ((t : Int) < 4096) = false := decide_eq_false hlt2
          clear hMi hlt hlt2 HPl HQl REST
          go_wp2_with (first | (go_at_call 30; refine AW.out.mono ?_; rintro e w4 ⟨rfl, hb4, hp4, hq4⟩; have Hb4 := hide hb4; have NP := hide (now_any w4 _ P L t hp4); have NQ := hide (now_any w4 _ Q (L.take k) t hq4); clear hb4 hp4 hq4) | (go_at_call_of 31 (pP P); refine NP.out.mono ?_; rintro e w5 ⟨rfl, hw5⟩; obtain rfl := hw5.symm) | (go_at_call_of 31 (pP Q); refine NQ.out.mono ?_; rintro e w5 ⟨rfl, hw5⟩; obtain rfl := hw5.symm))
          go_ret
          exact ⟨rfl, Hb4.out⟩
      · have hd1 : decide ((t : Int) < ticks) = false := decide_eq_false hlt
        clear hMi hlt HPl HQl REST
        go_wp2_with (first | (go_at_call 30; refine AW.out.mono ?_; rintro e w4 ⟨rfl, hb4, hp4, hq4⟩; have Hb4 := hide hb4; have NP := hide (now_any w4 _ P L t hp4); have NQ := hide (now_any w4 _ Q (L.take k) t hq4); clear hb4 hp4 hq4) | (go_at_call_of 31 (pP P); refine NP.out.mono ?_; rintro e w5 ⟨rfl, hw5⟩; obtain rfl := hw5.symm) | (go_at_call_of 31 (pP Q); refine NQ.out.mono ?_; rintro e w5 ⟨rfl, hw5⟩; obtain rfl := hw5.symm))
        go_ret
        exact ⟨rfl, Hb4.out⟩
  · have PL := hide (plan_no L _ w HV.out hc)
    have EP := eql_ptr0
    clear hc HV hcc hv
    go_enter Try.func12, Try.ntmps12
    go_upto_region 2 with (go_at_call 29; refine PL.out.mono ?_; rintro e w1 ⟨rfl, hb1⟩; have Hb := hide hb1; have AW := hide (awake22_any w1); clear hb1)
    go_wp2_with (go_at_call 30; refine AW.out.mono ?_; rintro e w2 ⟨rfl, hb2⟩; have Hb2 := hide (below_next Hb.out (Nat.le_refl _) hb2); clear hb2)
    go_ret
    exact ⟨rfl, Hb2.out⟩
end Go.Proofs.Ytcjahdgppnmdkaa
