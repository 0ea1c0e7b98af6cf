/- The contracts of the laws' helpers that compare lists of batches, write marks into them and look for the marks. Condition: at most 2^21 of each. -/
import Derived.Test.YtbfdhlpncblahaaBat
import Derived.Test.YtbfdhlpncblahaaRecHeld
import Derived.StillTailTactics
namespace Go.Proofs.Ytbfdhlpncblahaa
open Go.RowKit

set_option maxHeartbeats 400000 in
theorem eqBat_any (A B : Option Addr) (n c d : Nat) (es : List GE) (w : World) (ha : SlG w A n es) (hb : SlG w B n es) (hn : n ≤ 2097152) :
    Calls Try.prog 81 #[.agg #[.slice A n c], .agg #[.slice B n d]] w (GTell w true) := by
  have C := Lib.hid (fun W (h : Below w.heap.size w W) => eqRecs_any A B n c d es W (ha.below h) (hb.below h) hn)
  clear ha hb
  go_enter Try.func81, Try.ntmps81
  go_wp2_with fail
  refine (C.out _ (below_a2 _ _ _)).mono ?_
  rintro e w1 ⟨rfl, hb⟩
  go_wp2
  go_ret
  exact ⟨rfl, g_chain (below_a2 _ _ _) hb⟩

set_option maxRecDepth 10000 in
set_option maxHeartbeats 1000000 in
theorem eqBats_any (A B : Option Addr) (n c d : Nat) (bs bs' : List BE) (w : World) (ha : SlT w A n bs) (hb : SlT w B n bs') (hx : bs.map BE.es = bs'.map BE.es) (hn : n ≤ 2097152) (hs : ∀ e ∈ bs, e.n ≤ 2097152) :
    Calls Try.prog 44 #[.slice A n c, .slice B n d] w (GTell w true) := by
  have HA := Lib.hid ha
  have HB := Lib.hid hb
  have HX := Lib.hid hx
  have HS := Lib.hid hs
  clear ha hb hx hs
  go_enter Try.func44, Try.ntmps44
  go_wp2
  go_loopw [5] (fun i wr => ∃ k : Nat, k ≤ n ∧ i = .int .i64 k ∧ Hid (Below w.heap.size w wr)) (fun i _ => n - (intOf i).toNat)
  case atStart => exact ⟨0, Nat.zero_le _, rfl, Lib.hid (Below.refl _ _)⟩
  case round =>
    obtain ⟨k, hk, rfl, hbel⟩ := hrel
    by_cases hlt : k < n
    · obtain ⟨b, off, e, rfl, hbw, he, hok, c0⟩ := HA.out.at_ hlt
      obtain ⟨b', off', e', rfl, hbw', he', hok', c0'⟩ := HB.out.at_ hlt
      have c0 := (hbel.out.cell (p := ⟨b, off + k, none⟩) hbw).trans c0
      have c0' := (hbel.out.cell (p := ⟨b', off' + k, none⟩) hbw').trans c0'
      have hee := bat_map_at HX.out he.out he'.out
      have hnn : e'.n = e.n := by rw [← hok.out.rd.len, ← hok'.out.rd.len, hee]
      rw [hnn] at c0'
      have hrd' := hok'.out.rd
      rw [hnn, ← hee] at hrd'
      have HC := Lib.hid (fun W (h : Below w.heap.size w W) => eqBat_any e.A e'.A e.n e.c e'.c e.es W (hok.out.rd.below h) (hrd'.below h) (HS.out e (List.mem_of_getElem? he.out)))
      have HBL := Lib.hid hbel.out.drew
      clear hee hnn hrd' hbel
      go_wp2_with fail
      refine wp_region_still_tail 8 (by kernel_rfl) (by kernel_rfl) ?_
      simp only [List.take_succ_cons, List.take_zero, List.drop_succ_cons, List.drop_zero]
      change wpStill _ _ (World.drew _) _ _ _
      repeat still_step
      refine wpStill_nil ?_
      change wpList _ _ _ _ _ (World.drew _)
      clear c0 c0'
      generalize World.drew wr = W at *
      go_wp2_with fail
      refine (HC.out _ HBL.out).mono ?_
      rintro e1 w1 ⟨rfl, hb1⟩
      have HB1 := Lib.hid (g_chain HBL.out hb1)
      clear hb1
      go_wp2
      go_roundw
      case rel => exact ⟨k + 1, by omega, by go_num, HB1⟩
      case measure => simp [intOf]; omega
    · go_wp2
      go_ret
      exact ⟨rfl, hbel.out⟩

/-! ### marks -/
def markT : Nat → List BE → List BE
  | _, [] => []
  | k, e :: r => ⟨e.A, e.n, e.c, markG k e.es⟩ :: markT (k + 3 * e.n) r
def endT : Nat → List BE → Nat
  | k, [] => k
  | k, e :: r => endT (k + 3 * e.n) r
theorem markT_append : ∀ (xs ys : List BE) (k : Nat), markT k (xs ++ ys) = markT k xs ++ markT (endT k xs) ys
  | [], _, _ => rfl
  | x :: r, ys, k => by simp [markT, endT, markT_append r ys]
theorem endT_append : ∀ (xs ys : List BE) (k : Nat), endT k (xs ++ ys) = endT (endT k xs) ys
  | [], _, _ => rfl
  | x :: r, ys, k => by simp [endT, endT_append r ys]
theorem endT_le : ∀ (xs : List BE) (k : Nat), k ≤ endT k xs
  | [], _ => Nat.le_refl _
  | x :: r, k => by
    have := endT_le r (k + 3 * x.n)
    simp only [endT]
    omega
theorem markT_len : ∀ (xs : List BE) (k : Nat), (markT k xs).length = xs.length
  | [], _ => rfl
  | x :: r, k => by simp [markT, markT_len r]
theorem markT_cells : ∀ (xs : List BE) (k : Nat), (markT k xs).flatMap BE.cells = xs.flatMap BE.cells
  | [], _ => rfl
  | x :: r, k => by simp [markT, markT_cells r, BE.cells]
def sumN (bs : List BE) : Nat := (bs.map BE.n).sum
theorem endT_sum : ∀ (xs : List BE) (k : Nat), endT k xs = k + 3 * sumN xs
  | [], k => by simp [endT, sumN]
  | x :: r, k => by
    rw [endT, endT_sum r]
    simp only [sumN, List.map_cons, List.sum_cons]
    omega
def blkT (bs : List BE) (b : Nat) : Prop := ∃ e ∈ bs, e.v.ownBlock = some b
def MarkedT (w : World) (lo kk k : Nat) (A : Option Addr) (n c : Nat) (bs : List BE) (e : Ending) (w' : World) : Prop :=
  e = .returned (.int .i64 (kk : Int)) ∧ OwnT w' lo A n c (markT k bs) ∧ OnlyB (blkT bs) w w'

set_option maxRecDepth 10000 in
set_option maxHeartbeats 2000000 in
theorem markBats_any (A : Option Addr) (n c lo k : Nat) (bs : List BE) (w : World) (ho : OwnT w lo A n c bs) (hn : n ≤ 2097152) (hs : ∀ e ∈ bs, e.n ≤ 2097152) (hk : endT k bs ≤ 8388608) :
    Calls Try.prog 45 #[.slice A n c, .int .i64 (k : Int)] w (MarkedT w lo (endT k bs) k A n c bs) := by
  obtain ⟨hr, hl, hd⟩ := ho
  have HS := Lib.hid hs
  have HL := Lib.hid hl
  have HK := Lib.hid hk
  have HR := Lib.hid hr
  have HD := Lib.hid hd
  clear hs hl hk hr hd
  go_enter Try.func45, Try.ntmps45
  go_wp2
  go_loopw [1, 5] (fun t i wr => ∃ (j q : Nat) (pre post : List BE), j ≤ n ∧ i = .int .i64 j ∧ t = .int .i64 (q : Int) ∧ Hid (q = endT k pre) ∧ Hid (bs = pre ++ post) ∧ Hid (pre.length = j) ∧ Hid (wr.ownsRow lo 109 1 (.slice A n c) n (bs.flatMap BE.cells)) ∧ Hid (OwnL wr lo (markT k pre ++ post)) ∧ Hid (OnlyB (blkT bs) w wr)) (fun _ i _ => n - (intOf i).toNat)
  case atStart => exact ⟨0, k, [], bs, Nat.zero_le _, rfl, rfl, Lib.hid rfl, Lib.hid rfl, Lib.hid rfl, HR, HD, Lib.hid (OnlyB.refl _ _)⟩
  case round =>
    clear HR HD
    obtain ⟨j, q, pre, post, hj, rfl, rfl, hq, hes, hpl, hown, hdat, honly⟩ := hrel
    by_cases hlt : j < n
    · obtain ⟨e, post, rfl⟩ : ∃ e r, post = e :: r := by
        cases post with
        | nil => exfalso; have := congrArg List.length hes.out; have := HL.out; have := hpl.out; simp at *; omega
        | cons e r => exact ⟨e, r, rfl⟩
      obtain ⟨g, hg⟩ := g_own_at hown.out (by omega)
      subst hg
      have hbe : bs[j]? = some e := by rw [hes.out, List.getElem?_append_right (by rw [hpl.out]; exact Nat.le_refl _), hpl.out, Nat.sub_self]; rfl
      have hq2 : q ≤ 8388608 := by
        have h1 := HK.out
        rw [hes.out, endT_append, ← hq.out] at h1
        have := endT_le (e :: post) q
        omega
      have hmem : e ∈ bs := by rw [hes.out]; simp
      have hen : e.n ≤ 2097152 := HS.out e hmem
      have c0 : wr.cell? ⟨g, j, none⟩ = some (.slice e.A e.n e.c) := by
        have h1 := hown.out.cellAt j (by omega)
        have h2 := flat_get BE.cells 1 BE.cells_len bs j 0 e hbe (by omega)
        rw [Nat.mul_one, Nat.add_zero] at h2
        rw [h1, h2]
        rfl
      have hel : e.es.length = e.n := hdat.out.len e (by simp)
      have CM := Lib.hid (markRecs_any e.A e.n e.c lo q e.es wr (hdat.out.own e (by simp)) hel hen hq2)
      have HEL := Lib.hid hel
      obtain ⟨cur, hg0⟩ := bat_block hown.out
      have HFAR := Lib.hid (hdat.out.far hg0 (by decide) e (by simp))
      clear hbe hel hg0
      go_wp2_with fail
      refine CM.out.mono ?_
      rintro e1 w2 ⟨rfl, ho2, hg2⟩
      have HOWN := Lib.hid (hown.out.kept hg2 (.inr (fun e4 => by rcases HFAR.out with h5 | h5; · rw [show (Value.slice e.A e.n e.c).ownBlock = none from h5] at e4; cases e4
                                                                  · exact h5 e4.symm)))
      have HDAT := Lib.hid (hdat.out.turn hg2 ho2 (by rw [markG_len]; exact HEL.out))
      have HONLY := Lib.hid (honly.out.grown hg2 (fun i hi => ⟨e, hmem, hi⟩))
      clear ho2 hg2
      go_wp2
      go_roundw
      case rel =>
        refine ⟨j + 1, q + 3 * e.n, pre ++ [e], post, by omega, by go_num, rfl, Lib.hid ?_, Lib.hid ?_, Lib.hid (by simp [hpl.out]), HOWN, Lib.hid ?_, HONLY⟩
        · rw [endT_append, ← hq.out]; rfl
        · rw [hes.out]; simp
        · have h := HDAT.out
          rw [markT_append, ← hq.out, List.append_assoc]
          exact h
      case measure => simp [intOf]; omega
    · obtain rfl : j = n := by omega
      have hpe : post = [] := by
        have h1 := congrArg List.length hes.out
        have h2 := HL.out
        have h3 := hpl.out
        rw [List.length_append] at h1
        exact List.eq_nil_of_length_eq_zero (by omega)
      subst hpe
      go_wp2
      go_ret
      have e1 := hes.out
      have hdat := hdat.out
      rw [List.append_nil] at e1 hdat
      subst e1
      exact ⟨g_int (by rw [hq.out]), ⟨by rw [markT_cells]; exact hown.out, by rw [markT_len]; exact HL.out, hdat⟩, honly.out⟩

set_option maxRecDepth 10000 in
set_option maxHeartbeats 2000000 in
theorem heldBats_any (A : Option Addr) (n c k : Nat) (bs : List BE) (w : World) (hr : SlT w A n (markT k bs)) (hn : n ≤ 2097152) (hs : ∀ e ∈ bs, e.n ≤ 2097152) (hk : endT k bs ≤ 8388608) (hx : ∀ e ∈ bs, e.es.length = e.n) :
    Calls Try.prog 46 #[.slice A n c, .int .i64 (k : Int)] w (GNum w (endT k bs : Int)) := by
  have HS := Lib.hid hs
  have HR := Lib.hid hr
  have HK := Lib.hid hk
  have HX := Lib.hid hx
  have hlen : bs.length = n := by have := hr.len; rw [markT_len] at this; exact this
  have HL := Lib.hid hlen
  clear hs hr hk hx hlen
  go_enter Try.func46, Try.ntmps46
  go_wp2
  go_loopw [1, 5] (fun t i wr => ∃ (j q : Nat) (pre post : List BE), j ≤ n ∧ i = .int .i64 j ∧ t = .int .i64 (q : Int) ∧ Hid (q = endT k pre) ∧ Hid (bs = pre ++ post) ∧ Hid (pre.length = j) ∧ Hid (Below w.heap.size w wr)) (fun _ i _ => n - (intOf i).toNat)
  case atStart => exact ⟨0, k, [], bs, Nat.zero_le _, rfl, rfl, Lib.hid rfl, Lib.hid rfl, Lib.hid rfl, Lib.hid (Below.refl _ _)⟩
  case round =>
    obtain ⟨j, q, pre, post, hj, rfl, rfl, hq, hes, hpl, hbel⟩ := hrel
    by_cases hlt : j < n
    · obtain ⟨e, post, rfl⟩ : ∃ e r, post = e :: r := by
        cases post with
        | nil => exfalso; have := congrArg List.length hes.out; have := HL.out; have := hpl.out; simp at *; omega
        | cons e r => exact ⟨e, r, rfl⟩
      obtain ⟨b, off, e0, rfl, hbw, he, hok, c0⟩ := HR.out.at_ hlt
      have he0 : e0 = ⟨e.A, e.n, e.c, markG q e.es⟩ := by
        have h1 := he.out
        rw [hes.out, markT_append, ← hq.out, markT, List.getElem?_append_right (by rw [markT_len, hpl.out]; exact Nat.le_refl _), markT_len, hpl.out, Nat.sub_self] at h1
        simpa using h1.symm
      subst he0
      have hq2 : q + 3 * e.n ≤ 8388608 := by
        have h1 := HK.out
        rw [hes.out, endT_append, endT, ← hq.out] at h1
        have := endT_le post (q + 3 * e.n)
        omega
      have hen : e.n ≤ 2097152 := HS.out e (by rw [hes.out]; simp)
      have c0 : wr.cell? ⟨b, off + j, none⟩ = some (.slice e.A e.n e.c) := (hbel.out.cell (p := ⟨b, off + j, none⟩) hbw).trans c0
      have H := Lib.hid (heldRecs_any e.A e.n e.c q e.es wr (hok.out.below hbel.out).rd hen (by omega))
      have hp : (0 : Int) ≤ ((q + 3 * e.n : Nat) : Int) := by omega
      obtain ⟨z, hz⟩ : ∃ z, q + 3 * e.n = z := ⟨_, rfl⟩
      have HZ := Lib.hid hz
      rw [hz] at H hp
      clear he hok hz hq2
      go_wp2_with fail
      refine H.out.mono ?_
      rintro e1 w2 ⟨rfl, hb2⟩
      have HB := Lib.hid (g_chain hbel.out hb2)
      clear hb2
      go_wp2
      go_roundw
      case rel => exact ⟨j + 1, z, pre ++ [e], post, by omega, by go_num, rfl, Lib.hid (by rw [endT_append, ← hq.out, ← HZ.out]; rfl), Lib.hid (by rw [hes.out]; simp), Lib.hid (by simp [hpl.out]), HB⟩
      case measure => simp [intOf]; omega
    · obtain rfl : j = n := by omega
      have hpe : post = [] := by
        have h1 := congrArg List.length hes.out
        have h2 := HL.out
        have h3 := hpl.out
        rw [List.length_append] at h1
        exact List.eq_nil_of_length_eq_zero (by omega)
      subst hpe
      go_wp2
      go_ret
      have e1 := hes.out
      rw [List.append_nil] at e1
      subst e1
      exact ⟨g_int (by rw [hq.out]), hbel.out⟩
end Go.Proofs.Ytbfdhlpncblahaa
