/- The contracts of the laws' helpers that compare lists of shards. Condition: at most 2^21 of each. -/
import Derived.Test.YtbfdhlpncblahaaCShB
import Derived.StillTailTactics
namespace Go.Proofs.Ytbfdhlpncblahaa
open Go.RowKit

set_option maxRecDepth 10000 in
set_option maxHeartbeats 2000000 in
theorem eqHs_any (A B : Option Addr) (n c d : Nat) (bs bs' : List HE) (w : World) (ha : SlH w A n bs) (hb : SlH w B n bs') (hx : bs.map HE.sd = bs'.map HE.sd) (hn : n ≤ 2097152) (hs : ∀ e ∈ bs, e.n ≤ 2097152) :
    Calls Try.prog 21 #[.slice A n c, .slice B n d] w (GTell w true) := by
  have HA := Lib.hid ha
  have HB := Lib.hid hb
  have HX := Lib.hid hx
  have HS := Lib.hid hs
  clear ha hb hx hs
  go_enter Try.func21, Try.ntmps21
  go_wp2
  go_loopw [5] (fun i wr => ∃ k : Nat, k ≤ n ∧ i = .int .i64 k ∧ Hid (Below w.heap.size w wr)) (fun i _ => n - (intOf i).toNat)
  case atStart => exact ⟨0, Nat.zero_le _, rfl, Lib.hid (Below.refl _ _)⟩
  case round =>
    obtain ⟨k, hk, rfl, hbel⟩ := hrel
    by_cases hlt : k < n
    · obtain ⟨b, off, e, rfl, hbw, he, hok, c0, c1, c2⟩ := HA.out.at_ hlt
      obtain ⟨b', off', e', rfl, hbw', he', hok', c0', c1', c2'⟩ := HB.out.at_ hlt
      have c0 := (hbel.out.cell (p := ⟨b, off + k * 3, none⟩) hbw).trans c0
      have c1 := (hbel.out.cell (p := ⟨b, off + k * 3 + 1, none⟩) hbw).trans c1
      have c2 := (hbel.out.cell (p := ⟨b, off + k * 3 + 2, none⟩) hbw).trans c2
      have c0' := (hbel.out.cell (p := ⟨b', off' + k * 3, none⟩) hbw').trans c0'
      have c1' := (hbel.out.cell (p := ⟨b', off' + k * 3 + 1, none⟩) hbw').trans c1'
      have c2' := (hbel.out.cell (p := ⟨b', off' + k * 3 + 2, none⟩) hbw').trans c2'
      have hsd := bat_map_at HX.out he.out he'.out
      obtain ⟨h1, h2, hee⟩ : e'.lo = e.lo ∧ e'.hi = e.hi ∧ e.es = e'.es := by
        unfold HE.sd at hsd
        injection hsd with q1 q2
        injection q2 with q2 q3
        exact ⟨q1.symm, q2.symm, q3⟩
      have hnn : e'.n = e.n := by rw [← hok.out.rd.len, ← hok'.out.rd.len, hee]
      rw [h1] at c0'
      rw [h2] at c1'
      rw [hnn] at c2'
      have hrd' := hok'.out.rd
      rw [hnn, ← hee] at hrd'
      have HC := Lib.hid (fun W (h : Below w.heap.size w W) => eqShard_any e.lo e.hi e.A e'.A e.n e.c e'.c e.es W (hok.out.rd.below h) (hrd'.below h) (HS.out e (List.mem_of_getElem? he.out)))
      have HBL := Lib.hid hbel.out.drew
      clear hee hnn hrd' hbel hsd h1 h2 he he' hok hok'
      go_wp2_with fail
      refine wp_region_still_tail 8 (by kernel_rfl) (by kernel_rfl) ?_
      simp only [List.take_succ_cons, List.take_zero, List.drop_succ_cons, List.drop_zero]
      change wpStill _ _ (World.drew _) _ _ _
      repeat still_step
      refine wpStill_nil ?_
      change wpList _ _ _ _ _ (World.drew _)
      clear c0 c0' c1 c1' c2 c2'
      generalize World.drew wr = W at *
      go_wp2_with fail
      refine (HC.out _ HBL.out).mono ?_
      rintro e1 w1 ⟨rfl, hb1⟩
      have HB1 := Lib.hid (g_chain HBL.out hb1)
      clear hb1
      go_wp2
      go_roundw
      case rel => exact ⟨k + 1, by omega, by go_num, HB1⟩
      case measure => simp [intOf]; omega
    · go_wp2
      go_ret
      exact ⟨rfl, hbel.out⟩
end Go.Proofs.Ytbfdhlpncblahaa
