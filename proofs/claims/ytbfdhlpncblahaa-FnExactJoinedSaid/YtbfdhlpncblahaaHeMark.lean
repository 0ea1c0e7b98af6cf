/- Marks in lists of shards: the contracts of the laws' helpers that write them and that look for them. Condition: at most 2^21 of each. -/
import Derived.Test.YtbfdhlpncblahaaHe
import Derived.Test.YtbfdhlpncblahaaKMark
namespace Go.Proofs.Ytbfdhlpncblahaa
open Go.RowKit

/-! ### marks -/
def markHe (q : Nat) (e : HE) : HE := ⟨(q : Int), (q : Int) + 1, e.A, e.n, e.c, mark5 (q + 2) e.es⟩
def markH : Nat → List HE → List HE
  | _, [] => []
  | k, e :: r => markHe k e :: markH (k + 2 + 5 * e.n) r
def endH : Nat → List HE → Nat
  | k, [] => k
  | k, e :: r => endH (k + 2 + 5 * e.n) r
theorem markH_append : ∀ (xs ys : List HE) (k : Nat), markH k (xs ++ ys) = markH k xs ++ markH (endH k xs) ys
  | [], _, _ => rfl
  | x :: r, ys, k => by simp [markH, endH, markH_append r ys]
theorem endH_append : ∀ (xs ys : List HE) (k : Nat), endH k (xs ++ ys) = endH (endH k xs) ys
  | [], _, _ => rfl
  | x :: r, ys, k => by simp [endH, endH_append r ys]
theorem endH_le : ∀ (xs : List HE) (k : Nat), k ≤ endH k xs
  | [], _ => Nat.le_refl _
  | x :: r, k => by
    have := endH_le r (k + 2 + 5 * x.n)
    simp only [endH]
    omega
theorem markH_len : ∀ (xs : List HE) (k : Nat), (markH k xs).length = xs.length
  | [], _ => rfl
  | x :: r, k => by simp [markH, markH_len r]
def sumH (bs : List HE) : Nat := (bs.map HE.n).sum
theorem sumH_append (xs ys : List HE) : sumH (xs ++ ys) = sumH xs + sumH ys := by simp [sumH]
theorem sumH_cons (x : HE) (ys : List HE) : sumH (x :: ys) = x.n + sumH ys := by simp [sumH]
theorem endH_sum : ∀ (xs : List HE) (k : Nat), endH k xs = k + 2 * xs.length + 5 * sumH xs
  | [], k => by simp [endH, sumH]
  | x :: r, k => by
    rw [endH, endH_sum r, sumH_cons, List.length_cons]
    omega
def blkH (A : Option Addr) (n c : Nat) (bs : List HE) (b : Nat) : Prop := (Value.slice A n c).ownBlock = some b ∨ ∃ e ∈ bs, e.v.ownBlock = some b
def MarkedH (w : World) (lo kk k : Nat) (A : Option Addr) (n c : Nat) (bs : List HE) (e : Ending) (w' : World) : Prop :=
  e = .returned (.int .i64 (kk : Int)) ∧ OwnH w' lo A n c (markH k bs) ∧ OnlyB (blkH A n c bs) w w'
/-- The two numbers of a shard stored in its row. -/
theorem he_lay {w : World} {lo ty g c n j : Nat} {made rest : List HE} {x : HE} (q : Nat) (h : w.ownsRow lo ty 3 (.slice (some ⟨g, 0, none⟩) n c) n ((made ++ x :: rest).flatMap HE.cells)) (hm : made.length = j) :
    ((w.setCell ⟨g, j * 3, none⟩ (.int .i64 (q : Int))).setCell ⟨g, j * 3 + 1, none⟩ (.int .i64 ((q : Int) + 1))).ownsRow lo ty 3 (.slice (some ⟨g, 0, none⟩) n c) n ((made ++ markHe q x :: rest).flatMap HE.cells) ∧
      w.grownBy ((w.setCell ⟨g, j * 3, none⟩ (.int .i64 (q : Int))).setCell ⟨g, j * 3 + 1, none⟩ (.int .i64 ((q : Int) + 1))) (some g) := by
  have h1 := h.stored (j * 3) (.int .i64 (q : Int))
  have h2 := h1.1.stored (j * 3 + 1) (.int .i64 ((q : Int) + 1))
  have e1 := flat_set HE.cells 3 HE.cells_len (made ++ x :: rest) j 0 x ⟨(q : Int), x.hi, x.A, x.n, x.c, x.es⟩ (.int .i64 (q : Int)) (g_get _ _ _ _ hm) (by omega) rfl
  rw [Nat.add_zero, g_set _ _ _ _ _ hm] at e1
  have e2 := flat_set HE.cells 3 HE.cells_len (made ++ ⟨(q : Int), x.hi, x.A, x.n, x.c, x.es⟩ :: rest) j 1 ⟨(q : Int), x.hi, x.A, x.n, x.c, x.es⟩ (markHe q x) (.int .i64 ((q : Int) + 1)) (g_get _ _ _ _ hm) (by omega) rfl
  rw [g_set _ _ _ _ _ hm] at e2
  rw [e1, e2] at h2
  exact ⟨h2.1, h1.2.trans h2.2⟩

set_option maxRecDepth 10000 in
set_option maxHeartbeats 4000000 in
theorem markHs_any (A : Option Addr) (n c lo k : Nat) (bs : List HE) (w : World) (ho : OwnH w lo A n c bs) (hn : n ≤ 2097152) (hs : ∀ e ∈ bs, e.n ≤ 2097152) (hk : endH k bs ≤ 16777216) :
    Calls Try.prog 26 #[.slice A n c, .int .i64 (k : Int)] w (MarkedH w lo (endH k bs) k A n c bs) := by
  obtain ⟨hr, hl, hd⟩ := ho
  have HS := Lib.hid hs
  have HL := Lib.hid hl
  have HK := Lib.hid hk
  have HR := Lib.hid hr
  have HD := Lib.hid hd
  clear hs hl hk hr hd
  go_enter Try.func26, Try.ntmps26
  go_wp2
  go_loopw [1, 5] (fun t i wr => ∃ (j q : Nat) (pre post : List HE), j ≤ n ∧ i = .int .i64 j ∧ t = .int .i64 (q : Int) ∧ Hid (q = endH k pre) ∧ Hid (bs = pre ++ post) ∧ Hid (pre.length = j) ∧ Hid (wr.ownsRow lo 29 3 (.slice A n c) n ((markH k pre ++ post).flatMap HE.cells)) ∧ Hid (OwnHL wr lo (markH k pre ++ post)) ∧ Hid (OnlyB (blkH A n c bs) w wr)) (fun _ i _ => n - (intOf i).toNat)
  case atStart => exact ⟨0, k, [], bs, Nat.zero_le _, rfl, rfl, Lib.hid rfl, Lib.hid rfl, Lib.hid rfl, HR, HD, Lib.hid (OnlyB.refl _ _)⟩
  case round =>
    clear HR HD
    obtain ⟨j, q, pre, post, hj, rfl, rfl, hq, hes, hpl, hown, hdat, honly⟩ := hrel
    by_cases hlt : j < n
    · obtain ⟨e, post, rfl⟩ : ∃ e r, post = e :: r := by
        cases post with
        | nil => exfalso; have := congrArg List.length hes.out; have := HL.out; have := hpl.out; simp at *; omega
        | cons e r => exact ⟨e, r, rfl⟩
      obtain ⟨g, hg⟩ := g_own_at hown.out (by omega)
      subst hg
      have hq2 : q + 2 + 5 * e.n ≤ 16777216 := by
        have h1 := HK.out
        rw [hes.out, endH_append, endH, ← hq.out] at h1
        have := endH_le post (q + 2 + 5 * e.n)
        omega
      have hmem : e ∈ bs := by rw [hes.out]; simp
      have hen : e.n ≤ 2097152 := HS.out e hmem
      have hmk : (markH k pre).length = j := by rw [markH_len, hpl.out]
      have hown2 := hown.out
      have hqq := fun i (hi : i < 3) => (hown2.cellAt (j * 3 + i) (by omega)).trans (flat_get HE.cells 3 HE.cells_len _ j i e (g_get _ _ _ _ hmk) hi)
      have hc0 : wr.cell? ⟨g, j * 3, none⟩ = some (.int .i64 e.lo) := hqq 0 (by omega)
      have hc1 : wr.cell? ⟨g, j * 3 + 1, none⟩ = some (.int .i64 e.hi) := hqq 1 (by omega)
      have hc2 : wr.cell? ⟨g, j * 3 + 2, none⟩ = some (.slice e.A e.n e.c) := hqq 2 (by omega)
      have hf0 := hown2.frozenAt (j * 3)
      have hf1 := hown2.frozenAt (j * 3 + 1)
      have hlay := he_lay q hown2 hmk
      have HROW := Lib.hid hlay.1
      have HGR := Lib.hid hlay.2
      obtain ⟨cur, hg0⟩ := bat_block hown2
      have hel : e.es.length = e.n := hdat.out.len e (by simp)
      have HEL := Lib.hid hel
      have hd2 := hdat.out.kept hlay.2 (hdat.out.far hg0 (by decide))
      have HD2 := Lib.hid hd2
      have HFAR := Lib.hid (hdat.out.far hg0 (by decide) e (by simp))
      have CM := Lib.hid (markKs_any e.A e.n e.c lo (q + 2) e.es _ (hd2.own e (by simp)) hel hen (by omega))
      have hqs : ((q + 2 : Nat) : Int) = (q : Int) + 2 := by omega
      have hb1 : (q : Int) + 1 + 1 = (q : Int) + 2 := by omega
      rw [hqs] at CM
      obtain ⟨z, hz⟩ : ∃ z, q + 2 + 5 * e.n = z := ⟨_, rfl⟩
      have HZ := Lib.hid hz
      rw [hz] at CM
      clear hown2 hqq hmk hel hd2 hlay hg0 hqs hz
      go_wp2_with fail
      refine CM.out.mono ?_
      rintro e1 w2 ⟨rfl, ho2, hg2⟩
      have HOWN := Lib.hid (HROW.out.kept hg2 (.inr (fun e4 => by rcases HFAR.out with h5 | h5; · rw [show (Value.slice e.A e.n e.c).ownBlock = none from h5] at e4; cases e4
                                                                  · exact h5 e4.symm)))
      have HDAT := Lib.hid (HD2.out.turn (d' := markHe q e) hg2 rfl ho2 (by show (mark5 (q + 2) e.es).length = e.n; rw [mark5_len]; exact HEL.out))
      have HONLY := Lib.hid ((honly.out.grown HGR.out (fun i hi => .inl hi)).grown hg2 (fun i hi => .inr ⟨e, hmem, hi⟩))
      clear ho2 hg2
      go_wp2
      go_roundw
      case rel =>
        refine ⟨j + 1, z, pre ++ [e], post, by omega, by go_num, rfl, Lib.hid ?_, Lib.hid ?_, Lib.hid (by simp [hpl.out]), Lib.hid ?_, Lib.hid ?_, HONLY⟩
        · rw [endH_append, ← hq.out, ← HZ.out]; rfl
        · rw [hes.out]; simp
        · have h := HOWN.out
          rw [markH_append, ← hq.out, List.append_assoc]
          exact h
        · have h := HDAT.out
          rw [markH_append, ← hq.out, List.append_assoc]
          exact h
      case measure => simp [intOf]; omega
    · obtain rfl : j = n := by omega
      have hpe : post = [] := by
        have h1 := congrArg List.length hes.out
        have h2 := HL.out
        have h3 := hpl.out
        rw [List.length_append] at h1
        exact List.eq_nil_of_length_eq_zero (by omega)
      subst hpe
      go_wp2
      go_ret
      have e1 := hes.out
      have hdat := hdat.out
      have hown := hown.out
      rw [List.append_nil] at e1 hdat hown
      subst e1
      exact ⟨g_int (by rw [hq.out]), ⟨hown, by rw [markH_len]; exact HL.out, hdat⟩, honly.out⟩

set_option maxRecDepth 10000 in
set_option maxHeartbeats 2000000 in
theorem heldHs_any (A : Option Addr) (n c k : Nat) (bs : List HE) (w : World) (hr : SlH w A n (markH k bs)) (hn : n ≤ 2097152) (hs : ∀ e ∈ bs, e.n ≤ 2097152) (hk : endH k bs ≤ 16777216) (hx : ∀ e ∈ bs, e.es.length = e.n) :
    Calls Try.prog 27 #[.slice A n c, .int .i64 (k : Int)] w (GNum w (endH k bs : Int)) := by
  have HS := Lib.hid hs
  have HR := Lib.hid hr
  have HK := Lib.hid hk
  have HX := Lib.hid hx
  have hlen : bs.length = n := by have := hr.len; rw [markH_len] at this; exact this
  have HL := Lib.hid hlen
  clear hs hr hk hx hlen
  go_enter Try.func27, Try.ntmps27
  go_wp2
  go_loopw [1, 5] (fun t i wr => ∃ (j q : Nat) (pre post : List HE), j ≤ n ∧ i = .int .i64 j ∧ t = .int .i64 (q : Int) ∧ Hid (q = endH k pre) ∧ Hid (bs = pre ++ post) ∧ Hid (pre.length = j) ∧ Hid (Below w.heap.size w wr)) (fun _ i _ => n - (intOf i).toNat)
  case atStart => exact ⟨0, k, [], bs, Nat.zero_le _, rfl, rfl, Lib.hid rfl, Lib.hid rfl, Lib.hid rfl, Lib.hid (Below.refl _ _)⟩
  case round =>
    obtain ⟨j, q, pre, post, hj, rfl, rfl, hq, hes, hpl, hbel⟩ := hrel
    by_cases hlt : j < n
    · obtain ⟨e, post, rfl⟩ : ∃ e r, post = e :: r := by
        cases post with
        | nil => exfalso; have := congrArg List.length hes.out; have := HL.out; have := hpl.out; simp at *; omega
        | cons e r => exact ⟨e, r, rfl⟩
      obtain ⟨b, off, e0, rfl, hbw, he, hok, c0, c1, c2⟩ := HR.out.at_ hlt
      have he0 : e0 = markHe q e := by
        have h1 := he.out
        rw [hes.out, markH_append, ← hq.out, markH, List.getElem?_append_right (by rw [markH_len, hpl.out]; exact Nat.le_refl _), markH_len, hpl.out, Nat.sub_self] at h1
        simpa using h1.symm
      subst he0
      have hq2 : q + 2 + 5 * e.n ≤ 16777216 := by
        have h1 := HK.out
        rw [hes.out, endH_append, endH, ← hq.out] at h1
        have := endH_le post (q + 2 + 5 * e.n)
        omega
      have hen : e.n ≤ 2097152 := HS.out e (by rw [hes.out]; simp)
      have c0 : wr.cell? ⟨b, off + j * 3, none⟩ = some (.int .i64 (q : Int)) := (hbel.out.cell (p := ⟨b, off + j * 3, none⟩) hbw).trans c0
      have c1 : wr.cell? ⟨b, off + j * 3 + 1, none⟩ = some (.int .i64 ((q : Int) + 1)) := (hbel.out.cell (p := ⟨b, off + j * 3 + 1, none⟩) hbw).trans c1
      have c2 : wr.cell? ⟨b, off + j * 3 + 2, none⟩ = some (.slice e.A e.n e.c) := (hbel.out.cell (p := ⟨b, off + j * 3 + 2, none⟩) hbw).trans c2
      have H := Lib.hid (heldKs_any e.A e.n e.c (q + 2) e.es wr (hok.out.below hbel.out).rd hen (by omega))
      have hqs : ((q + 2 : Nat) : Int) = (q : Int) + 2 := by omega
      have hb1 : (q : Int) + 1 + 1 = (q : Int) + 2 := by omega
      rw [hqs] at H
      have hp : (0 : Int) ≤ ((q + 2 + 5 * e.n : Nat) : Int) := by omega
      obtain ⟨z, hz⟩ : ∃ z, q + 2 + 5 * e.n = z := ⟨_, rfl⟩
      have HZ := Lib.hid hz
      rw [hz] at H hp
      clear he hok hz hqs
      go_wp2_with fail
      refine H.out.mono ?_
      rintro e1 w2 ⟨rfl, hb2⟩
      have HB := Lib.hid (g_chain hbel.out hb2)
      clear hb2
      go_wp2
      go_roundw
      case rel => exact ⟨j + 1, z, pre ++ [e], post, by omega, by go_num, rfl, Lib.hid (by rw [endH_append, ← hq.out, ← HZ.out]; rfl), Lib.hid (by rw [hes.out]; simp), Lib.hid (by simp [hpl.out]), HB⟩
      case measure => simp [intOf]; omega
    · obtain rfl : j = n := by omega
      have hpe : post = [] := by
        have h1 := congrArg List.length hes.out
        have h2 := HL.out
        have h3 := hpl.out
        rw [List.length_append] at h1
        exact List.eq_nil_of_length_eq_zero (by omega)
      subst hpe
      go_wp2
      go_ret
      have e1 := hes.out
      rw [List.append_nil] at e1
      subst e1
      exact ⟨g_int (by rw [hq.out]), hbel.out⟩
end Go.Proofs.Ytbfdhlpncblahaa
