/- Encode of package params; ParamsBack. -/
import Derived.Test.YtfhcfngogfefjaaPaG
namespace Go.Proofs.Ytfhcfngogfefjaa
open Go.RowKit Go.Great

/-- what Encode answers -/
def encE (l : List Int) : ByteArray := if chk l = 0 then bs (encK l 24) else ⟨#[]⟩
theorem encB_cells (x : Int) : bytesV (encB x) = [.int .u8 (x / 16777216 % 256), .int .u8 (x / 65536 % 256), .int .u8 (x / 256 % 256), .int .u8 (x % 256)] := by
  unfold bytesV encB
  simp only [List.map_cons, List.map_nil, by8_nat, Int.reducePow, Int.pow_zero, Int.ediv_one]
theorem new_cell4 (w : World) (g : Nat) (hg : g = w.heap.size) (a b c d : Value) (t : TypeId) : ∀ j u, [a, b, c, d][j]? = some u → (w.alloc (.cells #[a, b, c, d] t)).cell? ((⟨g, 0, none⟩ : Addr).add j) = some u := by
  subst hg
  intro j u hu
  rw [show (Addr.add ⟨w.heap.size, 0, none⟩ j) = ⟨w.heap.size, j, none⟩ by simp [Addr.add]; exact fun h => h.symm, World.cell?_alloc_new]
  simpa using hu
set_option maxHeartbeats 1000000 in
theorem encode_any (l : List Int) (v : Value) (w : World) (hv : Ints w v l) : Calls Try.prog 32 #[v] w fun e w' => e = .returned (.tuple #[.string (encE l), .int .i64 (chk l)]) ∧ Below w.heap.size w w' := by
  have hck := check_any l v w hv
  unfold encE
  by_cases hc : chk l = 0
  · rw [if_pos hc]
    have hs := sound_of hc
    rw [hc] at hck ⊢
    obtain ⟨i0, hi, hz0, hz1, hz2⟩ := info_parts info_byte
    have HSM := hide (fun i hi => hs.inr.small i hi)
    obtain ⟨g, o, cap, rfl, hg, hcc⟩ := hv.open24 hs.len
    have HC := hide hcc
    obtain ⟨E, HE⟩ : ∃ E, Hid (bs (encK l 24) = E) := ⟨_, rfl⟩
    rw [HE.out]
    clear hc hs hcc hv
    go_enter Try.func32, Try.ntmps32
    go_wp2_with fail
    refine hck.mono ?_
    rintro e w1 ⟨rfl, hB1⟩
    have HB1 := hide hB1
    clear hB1 hck
    have hsz1 := HB1.out.size
    go_wp2_with (at_make; refine wpList_make_own _ rfl (.const (.int .i64 0)) (.const (.int .i64 96)) 64 rfl w.heap.size 5 i0 _ 1 Try.underlying64 hi hz0 hz1 .i64 .i64 _ 96 rfl rfl (by rfl) ?b1 ?b2 ?b3 ?_)
    case b1 => rw [hz2]; omega
    case b2 => unfold maxLen; omega
    case b3 => exact hsz1
    intro w2 hown2 hgrow2
    have HB2 : Hid (Below w.heap.size w w2) := HB1.out.grown hgrow2 hsz1 (fun k e => by cases e)
    have HO2 : Hid (BRow w2 w.heap.size (.slice (some ⟨w1.heap.size, 0, none⟩) 0 96) []) := hown2
    clear hown2 hgrow2
    obtain ⟨N, HN⟩ : ∃ N, Hid (w1.heap.size = N) := ⟨_, rfl⟩
    have hNb : w.heap.size ≤ N := by have := HN.out; omega
    rw [HN.out] at HO2 ⊢
    clear hsz1 HB1
    go_wp2_with fail
    go_loopw [5, 16] (fun v i wx => ∃ k : Nat, k ≤ 24 ∧ i = .int .i64 k ∧ v = .slice (some ⟨N, 0, none⟩) (4 * k) 96 ∧ BRow wx w.heap.size v (encK l k) ∧ Below w.heap.size w wx) (fun _ i _ => 24 - (intOf i).toNat)
    case atStart => exact ⟨0, by omega, rfl, rfl, HO2.out, HB2.out⟩
    case round =>
      obtain ⟨k, hk, rfl, rfl, hR, hB⟩ := hrel
      have HB := hide hB
      have HRr := hide hR
      clear hR hB HO2 HB2
      by_cases hlt : k < 24
      · have hx := (HB.out.cell (p := ⟨g, o + k, none⟩) hg).trans (HC.out k hlt)
        have hxb := HSM.out k hlt
        have HEK : Hid (encK l (k + 1) = encK l k ++ encB (l.getD k 0)) := rfl
        have HLE := hide (encK_len l k)
        have HCe := hide (encB_cells (l.getD k 0))
        rw [show l.getD k 0 / 16777216 % 256 = l.getD k 0 / 16777216 by omega] at HCe
        generalize l.getD k 0 = x at hx hxb HEK HCe
        generalize encK l k = L at HEK HLE HRr
        have hws := HB.out.size
        obtain ⟨p, HP⟩ : ∃ p, Hid (4 * k = p) := ⟨_, rfl⟩
        rw [HP.out] at HRr HLE ⊢
        have hpb : p ≤ 92 := by have := HP.out; omega
        have HO3 : Hid ((wr.alloc (.cells #[.int .u8 (x / 16777216), .int .u8 (x / 65536 % 256), .int .u8 (x / 256 % 256), .int .u8 (x % 256)] 5)).ownsRow w.heap.size 5 1 (.slice (some ⟨N, 0, none⟩) p 96) p (bytesV L)) := by
          have := HRr.out.alloc (.cells #[.int .u8 (x / 16777216), .int .u8 (x / 65536 % 256), .int .u8 (x / 256 % 256), .int .u8 (x % 256)] 5)
          unfold BRow at this
          rw [HLE.out] at this
          exact this
        go_wp2_with (at_builtin; refine wpList_append_fits _ rfl (.tmp 20) (.tmp 32) 64 rfl w.heap.size 5 i0 1 Try.underlying64 hi hz1 N p 96 _ rfl HO3.out ⟨wr.heap.size, 0, none⟩ 4 4 [.int .u8 (x / 16777216), .int .u8 (x / 65536 % 256), .int .u8 (x / 256 % 256), .int .u8 (x % 256)] rfl rfl ?c1 ?c2 ?c3 ?_)
        case c1 => exact new_cell4 _ _ rfl _ _ _ _ _
        case c2 => intro u hu; simp at hu; rcases hu with rfl | rfl | rfl | rfl <;> rfl
        case c3 => omega
        intro w5 hown5 hgrow5
        have HR5 : Hid (BRow w5 w.heap.size (.slice (some ⟨N, 0, none⟩) (p + 4) 96) (encK l (k + 1))) := by
          show World.ownsRow _ _ _ _ _ _ _
          rw [HEK.out, List.length_append, HLE.out, bytesV_app, HCe.out]; exact hown5
        have HB5 : Hid (Below w.heap.size w w5) := (HB.out.alloc hws _).grown hgrow5 (by rw [size_alloc]; omega) (fun k e => by injection e with e; omega)
        have HP4 : Hid (p + 4 = 4 * (k + 1)) := by have := HP.out; show _ = _; omega
        clear hown5 hgrow5 HO3 hi hz0 hz1 hz2
        rw [HP4.out] at HR5 ⊢
        go_wp2_with fail
        go_roundw
        case rel => exact ⟨k + 1, by omega, by go_num, rfl, HR5.out, HB5.out⟩
        case measure => simp [intOf]; omega
      · obtain rfl : k = 24 := by omega
        have hT := HRr.out.text
        rw [HE.out] at hT
        clear hi hz0 hz1 hz2
        go_wp2_with fail
        go_ret2
        exact ⟨rfl, HB.out⟩
  · rw [if_neg hc]
    obtain ⟨a, cap, rfl, _⟩ := hv
    generalize chk l = c at hck hc ⊢
    generalize l.length = n at hck ⊢
    have hne : (c != 0) = true := by simp [hc]
    clear hc
    go_enter Try.func32, Try.ntmps32
    go_wp2_with fail
    refine hck.mono ?_
    rintro e w1 ⟨rfl, hB1⟩
    have HB1 := hide hB1
    clear hB1 hck
    go_wp2_with fail
    go_ret2
    exact ⟨rfl, HB1.out⟩
end Go.Proofs.Ytfhcfngogfefjaa
