/- Marks in lists of shards: the contracts of the laws' helpers that write them and that look for them. Condition: at most 2^21 of each. // Shards of the call's own behind writings elsewhere; how small they are (plain lemmas over the model; no condition). // Farms in memory: rows of the call's own, with the range that their blocks lie in; such as read (plain lemmas over the model; no condition). // The contracts of FarmOk and FarmGraph, the model's and the program's, over a farm that reads. Condition: at most 2^20 ends, shards and edges together. // Edges, graphs and numbers: the contracts of the laws' helpers that measure and copy. Condition: at most 2^21 of each. // The laws' helper that measures a list of numbers. Condition: what is left is at most 2^20. // Parted from YtpgnappddddlpaaGrEq: the contracts of the functions that only their own laws reach. // Words for data with depth (plain lemmas over the model; no condition): 'RdR lo hi w s cs d': the cells cs read in w as the datum d of the shape s, and every row that is looked into lies in a block from lo on and below hi; such a reading is kept where these blocks are. // What the opening of an argument that is a graph, or a list of records of three numbers, is told by (no condition). // The opening of an argument that is a graph. -/
import Derived.Test.YtpgnappddddlpaaCGC
import Derived.Test.YtpgnappddddlpaaCGD
import Derived.Test.YtpgnappddddlpaaCGB
import Derived.Test.YtpgnappddddlpaaCGE
import Derived.Test.YtpgnappddddlpaaCGF
import Derived.Test.YtpgnappddddlpaaCGA
import Derived.WalkKit
import Derived.Below
import Derived.Laws.Rows
import Derived.Laws.OwnMore
import Derived.Deep.Draws
import Derived.Lib.Hide
import Derived.ChangeArms
import Derived.DataReads
namespace Go.Proofs.Ytpgnappddddlpaa
open Go.RowKit

/-! ### marks -/
def markHe (q : Nat) (e : HE) : HE := ⟨(q : Int), (q : Int) + 1, e.A, e.n, e.c, mark5 (q + 2) e.es⟩
def markH : Nat → List HE → List HE
  | _, [] => []
  | k, e :: r => markHe k e :: markH (k + 2 + 5 * e.n) r
def endH : Nat → List HE → Nat
  | k, [] => k
  | k, e :: r => endH (k + 2 + 5 * e.n) r
theorem markH_append : ∀ (xs ys : List HE) (k : Nat), markH k (xs ++ ys) = markH k xs ++ markH (endH k xs) ys
  | [], _, _ => rfl
  | x :: r, ys, k => by simp [markH, endH, markH_append r ys]
theorem endH_append : ∀ (xs ys : List HE) (k : Nat), endH k (xs ++ ys) = endH (endH k xs) ys
  | [], _, _ => rfl
  | x :: r, ys, k => by simp [endH, endH_append r ys]
theorem endH_le : ∀ (xs : List HE) (k : Nat), k ≤ endH k xs
  | [], _ => Nat.le_refl _
  | x :: r, k => by
    have := endH_le r (k + 2 + 5 * x.n)
    simp only [endH]
    omega
theorem markH_len : ∀ (xs : List HE) (k : Nat), (markH k xs).length = xs.length
  | [], _ => rfl
  | x :: r, k => by simp [markH, markH_len r]
def sumH (bs : List HE) : Nat := (bs.map HE.n).sum
theorem sumH_append (xs ys : List HE) : sumH (xs ++ ys) = sumH xs + sumH ys := by simp [sumH]
theorem sumH_cons (x : HE) (ys : List HE) : sumH (x :: ys) = x.n + sumH ys := by simp [sumH]
theorem endH_sum : ∀ (xs : List HE) (k : Nat), endH k xs = k + 2 * xs.length + 5 * sumH xs
  | [], k => by simp [endH, sumH]
  | x :: r, k => by
    rw [endH, endH_sum r, sumH_cons, List.length_cons]
    omega
def blkH (A : Option Addr) (n c : Nat) (bs : List HE) (b : Nat) : Prop := (Value.slice A n c).ownBlock = some b ∨ ∃ e ∈ bs, e.v.ownBlock = some b
def MarkedH (w : World) (lo kk k : Nat) (A : Option Addr) (n c : Nat) (bs : List HE) (e : Ending) (w' : World) : Prop :=
  e = .returned (.int .i64 (kk : Int)) ∧ OwnH w' lo A n c (markH k bs) ∧ OnlyB (blkH A n c bs) w w'
/-- The two numbers of a shard stored in its row. -/
theorem he_lay {w : World} {lo ty g c n j : Nat} {made rest : List HE} {x : HE} (q : Nat) (h : w.ownsRow lo ty 3 (.slice (some ⟨g, 0, none⟩) n c) n ((made ++ x :: rest).flatMap HE.cells)) (hm : made.length = j) :
    ((w.setCell ⟨g, j * 3, none⟩ (.int .i64 (q : Int))).setCell ⟨g, j * 3 + 1, none⟩ (.int .i64 ((q : Int) + 1))).ownsRow lo ty 3 (.slice (some ⟨g, 0, none⟩) n c) n ((made ++ markHe q x :: rest).flatMap HE.cells) ∧
      w.grownBy ((w.setCell ⟨g, j * 3, none⟩ (.int .i64 (q : Int))).setCell ⟨g, j * 3 + 1, none⟩ (.int .i64 ((q : Int) + 1))) (some g) := by
  have h1 := h.stored (j * 3) (.int .i64 (q : Int))
  have h2 := h1.1.stored (j * 3 + 1) (.int .i64 ((q : Int) + 1))
  have e1 := flat_set HE.cells 3 HE.cells_len (made ++ x :: rest) j 0 x ⟨(q : Int), x.hi, x.A, x.n, x.c, x.es⟩ (.int .i64 (q : Int)) (g_get _ _ _ _ hm) (by omega) rfl
  rw [Nat.add_zero, g_set _ _ _ _ _ hm] at e1
  have e2 := flat_set HE.cells 3 HE.cells_len (made ++ ⟨(q : Int), x.hi, x.A, x.n, x.c, x.es⟩ :: rest) j 1 ⟨(q : Int), x.hi, x.A, x.n, x.c, x.es⟩ (markHe q x) (.int .i64 ((q : Int) + 1)) (g_get _ _ _ _ hm) (by omega) rfl
  rw [g_set _ _ _ _ _ hm] at e2
  rw [e1, e2] at h2
  exact ⟨h2.1, h1.2.trans h2.2⟩

set_option maxRecDepth 10000 in
set_option maxHeartbeats 4000000 in
theorem markHs_any (A : Option Addr) (n c lo k : Nat) (bs : List HE) (w : World) (ho : OwnH w lo A n c bs) (hn : n ≤ 2097152) (hs : ∀ e ∈ bs, e.n ≤ 2097152) (hk : endH k bs ≤ 16777216) :
    Calls Try.prog 79 #[.slice A n c, .int .i64 (k : Int)] w (MarkedH w lo (endH k bs) k A n c bs) := by
  obtain ⟨hr, hl, hd⟩ := ho
  have HS := Lib.hid hs
  have HL := Lib.hid hl
  have HK := Lib.hid hk
  have HR := Lib.hid hr
  have HD := Lib.hid hd
  clear hs hl hk hr hd
  go_enter Try.func79, Try.ntmps79
  go_wp2
  go_loopw [1, 5] (fun t i wr => ∃ (j q : Nat) (pre post : List HE), j ≤ n ∧ i = .int .i64 j ∧ t = .int .i64 (q : Int) ∧ Hid (q = endH k pre) ∧ Hid (bs = pre ++ post) ∧ Hid (pre.length = j) ∧ Hid (wr.ownsRow lo 85 3 (.slice A n c) n ((markH k pre ++ post).flatMap HE.cells)) ∧ Hid (OwnHL wr lo (markH k pre ++ post)) ∧ Hid (OnlyB (blkH A n c bs) w wr)) (fun _ i _ => n - (intOf i).toNat)
  case atStart => exact ⟨0, k, [], bs, Nat.zero_le _, rfl, rfl, Lib.hid rfl, Lib.hid rfl, Lib.hid rfl, HR, HD, Lib.hid (OnlyB.refl _ _)⟩
  case round =>
    clear HR HD
    obtain ⟨j, q, pre, post, hj, rfl, rfl, hq, hes, hpl, hown, hdat, honly⟩ := hrel
    by_cases hlt : j < n
    · obtain ⟨e, post, rfl⟩ : ∃ e r, post = e :: r := by
        cases post with
        | nil => exfalso; have := congrArg List.length hes.out; have := HL.out; have := hpl.out; simp at *; omega
        | cons e r => exact ⟨e, r, rfl⟩
      obtain ⟨g, hg⟩ := g_own_at hown.out (by omega)
      subst hg
      have hq2 : q + 2 + 5 * e.n ≤ 16777216 := by
        have h1 := HK.out
        rw [hes.out, endH_append, endH, ← hq.out] at h1
        have := endH_le post (q + 2 + 5 * e.n)
        omega
      have hmem : e ∈ bs := by rw [hes.out]; simp
      have hen : e.n ≤ 2097152 := HS.out e hmem
      have hmk : (markH k pre).length = j := by rw [markH_len, hpl.out]
      have hown2 := hown.out
      have hqq := fun i (hi : i < 3) => (hown2.cellAt (j * 3 + i) (by omega)).trans (flat_get HE.cells 3 HE.cells_len _ j i e (g_get _ _ _ _ hmk) hi)
      have hc0 : wr.cell? ⟨g, j * 3, none⟩ = some (.int .i64 e.lo) := hqq 0 (by omega)
      have hc1 : wr.cell? ⟨g, j * 3 + 1, none⟩ = some (.int .i64 e.hi) := hqq 1 (by omega)
      have hc2 : wr.cell? ⟨g, j * 3 + 2, none⟩ = some (.slice e.A e.n e.c) := hqq 2 (by omega)
      have hf0 := hown2.frozenAt (j * 3)
      have hf1 := hown2.frozenAt (j * 3 + 1)
      have hlay := he_lay q hown2 hmk
      have HROW := Lib.hid hlay.1
      have HGR := Lib.hid hlay.2
      obtain ⟨cur, hg0⟩ := bat_block hown2
      have hel : e.es.length = e.n := hdat.out.len e (by simp)
      have HEL := Lib.hid hel
      have hd2 := hdat.out.kept hlay.2 (hdat.out.far hg0 (by decide))
      have HD2 := Lib.hid hd2
      have HFAR := Lib.hid (hdat.out.far hg0 (by decide) e (by simp))
      have CM := Lib.hid (markKs_any e.A e.n e.c lo (q + 2) e.es _ (hd2.own e (by simp)) hel hen (by omega))
      have hqs : ((q + 2 : Nat) : Int) = (q : Int) + 2 := by omega
      have hb1 : (q : Int) + 1 + 1 = (q : Int) + 2 := by omega
      rw [hqs] at CM
      obtain ⟨z, hz⟩ : ∃ z, q + 2 + 5 * e.n = z := ⟨_, rfl⟩
      have HZ := Lib.hid hz
      rw [hz] at CM
      clear hown2 hqq hmk hel hd2 hlay hg0 hqs hz
      go_wp2_with fail
      refine CM.out.mono ?_
      rintro e1 w2 ⟨rfl, ho2, hg2⟩
      have HOWN := Lib.hid (HROW.out.kept hg2 (.inr (fun e4 => by rcases HFAR.out with h5 | h5; · rw [show (Value.slice e.A e.n e.c).ownBlock = none from h5] at e4; cases e4
                                                                  · exact h5 e4.symm)))
      have HDAT := Lib.hid (HD2.out.turn (d' := markHe q e) hg2 rfl ho2 (by show (mark5 (q + 2) e.es).length = e.n; rw [mark5_len]; exact HEL.out))
      have HONLY := Lib.hid ((honly.out.grown HGR.out (fun i hi => .inl hi)).grown hg2 (fun i hi => .inr ⟨e, hmem, hi⟩))
      clear ho2 hg2
      go_wp2
      go_roundw
      case rel =>
        refine ⟨j + 1, z, pre ++ [e], post, by omega, by go_num, rfl, Lib.hid ?_, Lib.hid ?_, Lib.hid (by simp [hpl.out]), Lib.hid ?_, Lib.hid ?_, HONLY⟩
        · rw [endH_append, ← hq.out, ← HZ.out]; rfl
        · rw [hes.out]; simp
        · have h := HOWN.out
          rw [markH_append, ← hq.out, List.append_assoc]
          exact h
        · have h := HDAT.out
          rw [markH_append, ← hq.out, List.append_assoc]
          exact h
      case measure => simp [intOf]; omega
    · obtain rfl : j = n := by omega
      have hpe : post = [] := by
        have h1 := congrArg List.length hes.out
        have h2 := HL.out
        have h3 := hpl.out
        rw [List.length_append] at h1
        exact List.eq_nil_of_length_eq_zero (by omega)
      subst hpe
      go_wp2
      go_ret
      have e1 := hes.out
      have hdat := hdat.out
      have hown := hown.out
      rw [List.append_nil] at e1 hdat hown
      subst e1
      exact ⟨g_int (by rw [hq.out]), ⟨hown, by rw [markH_len]; exact HL.out, hdat⟩, honly.out⟩

set_option maxRecDepth 10000 in
set_option maxHeartbeats 2000000 in
theorem heldHs_any (A : Option Addr) (n c k : Nat) (bs : List HE) (w : World) (hr : SlH w A n (markH k bs)) (hn : n ≤ 2097152) (hs : ∀ e ∈ bs, e.n ≤ 2097152) (hk : endH k bs ≤ 16777216) (hx : ∀ e ∈ bs, e.es.length = e.n) :
    Calls Try.prog 80 #[.slice A n c, .int .i64 (k : Int)] w (GNum w (endH k bs : Int)) := by
  have HS := Lib.hid hs
  have HR := Lib.hid hr
  have HK := Lib.hid hk
  have HX := Lib.hid hx
  have hlen : bs.length = n := by have := hr.len; rw [markH_len] at this; exact this
  have HL := Lib.hid hlen
  clear hs hr hk hx hlen
  go_enter Try.func80, Try.ntmps80
  go_wp2
  go_loopw [1, 5] (fun t i wr => ∃ (j q : Nat) (pre post : List HE), j ≤ n ∧ i = .int .i64 j ∧ t = .int .i64 (q : Int) ∧ Hid (q = endH k pre) ∧ Hid (bs = pre ++ post) ∧ Hid (pre.length = j) ∧ Hid (Below w.heap.size w wr)) (fun _ i _ => n - (intOf i).toNat)
  case atStart => exact ⟨0, k, [], bs, Nat.zero_le _, rfl, rfl, Lib.hid rfl, Lib.hid rfl, Lib.hid rfl, Lib.hid (Below.refl _ _)⟩
  case round =>
    obtain ⟨j, q, pre, post, hj, rfl, rfl, hq, hes, hpl, hbel⟩ := hrel
    by_cases hlt : j < n
    · obtain ⟨e, post, rfl⟩ : ∃ e r, post = e :: r := by
        cases post with
        | nil => exfalso; have := congrArg List.length hes.out; have := HL.out; have := hpl.out; simp at *; omega
        | cons e r => exact ⟨e, r, rfl⟩
      obtain ⟨b, off, e0, rfl, hbw, he, hok, c0, c1, c2⟩ := HR.out.at_ hlt
      have he0 : e0 = markHe q e := by
        have h1 := he.out
        rw [hes.out, markH_append, ← hq.out, markH, List.getElem?_append_right (by rw [markH_len, hpl.out]; exact Nat.le_refl _), markH_len, hpl.out, Nat.sub_self] at h1
        simpa using h1.symm
      subst he0
      have hq2 : q + 2 + 5 * e.n ≤ 16777216 := by
        have h1 := HK.out
        rw [hes.out, endH_append, endH, ← hq.out] at h1
        have := endH_le post (q + 2 + 5 * e.n)
        omega
      have hen : e.n ≤ 2097152 := HS.out e (by rw [hes.out]; simp)
      have c0 : wr.cell? ⟨b, off + j * 3, none⟩ = some (.int .i64 (q : Int)) := (hbel.out.cell (p := ⟨b, off + j * 3, none⟩) hbw).trans c0
      have c1 : wr.cell? ⟨b, off + j * 3 + 1, none⟩ = some (.int .i64 ((q : Int) + 1)) := (hbel.out.cell (p := ⟨b, off + j * 3 + 1, none⟩) hbw).trans c1
      have c2 : wr.cell? ⟨b, off + j * 3 + 2, none⟩ = some (.slice e.A e.n e.c) := (hbel.out.cell (p := ⟨b, off + j * 3 + 2, none⟩) hbw).trans c2
      have H := Lib.hid (heldKs_any e.A e.n e.c (q + 2) e.es wr (hok.out.below hbel.out).rd hen (by omega))
      have hqs : ((q + 2 : Nat) : Int) = (q : Int) + 2 := by omega
      have hb1 : (q : Int) + 1 + 1 = (q : Int) + 2 := by omega
      rw [hqs] at H
      have hp : (0 : Int) ≤ ((q + 2 + 5 * e.n : Nat) : Int) := by omega
      obtain ⟨z, hz⟩ : ∃ z, q + 2 + 5 * e.n = z := ⟨_, rfl⟩
      have HZ := Lib.hid hz
      rw [hz] at H hp
      clear he hok hz hqs
      go_wp2_with fail
      refine H.out.mono ?_
      rintro e1 w2 ⟨rfl, hb2⟩
      have HB := Lib.hid (g_chain hbel.out hb2)
      clear hb2
      go_wp2
      go_roundw
      case rel => exact ⟨j + 1, z, pre ++ [e], post, by omega, by go_num, rfl, Lib.hid (by rw [endH_append, ← hq.out, ← HZ.out]; rfl), Lib.hid (by rw [hes.out]; simp), Lib.hid (by simp [hpl.out]), HB⟩
      case measure => simp [intOf]; omega
    · obtain rfl : j = n := by omega
      have hpe : post = [] := by
        have h1 := congrArg List.length hes.out
        have h2 := HL.out
        have h3 := hpl.out
        rw [List.length_append] at h1
        exact List.eq_nil_of_length_eq_zero (by omega)
      subst hpe
      go_wp2
      go_ret
      have e1 := hes.out
      rw [List.append_nil] at e1
      subst e1
      exact ⟨g_int (by rw [hq.out]), hbel.out⟩
end Go.Proofs.Ytpgnappddddlpaa
namespace Go.Proofs.Ytpgnappddddlpaa
open Go.RowKit

section
variable {w w' w0 : World} {n c lo lo0 : Nat} {A : Option Addr} {bs : List HE}
theorem OwnH.blocks (h : OwnH w0 lo0 A n c bs) : (∀ k, (Value.slice A n c).ownBlock = some k → lo0 ≤ k ∧ k < w0.heap.size) ∧ ∀ d ∈ bs, ∀ k, d.v.ownBlock = some k → lo0 ≤ k ∧ k < w0.heap.size :=
  ⟨h.row.lt, fun d hd => (h.dat.own d hd).lt⟩
theorem OwnH.other {row : Option Nat} (h : OwnH w lo A n c bs) (h0 : OwnH w0 lo0 A n c bs) (hg : w.grownBy w' row) (hne : ∀ k, row = some k → ¬ (lo0 ≤ k ∧ k < w0.heap.size)) : OwnH w' lo A n c bs :=
  ⟨h.row.kept hg (ne_of_lt h0.blocks.1 hne), h.len, h.dat.kept hg (fun d hd => ne_of_lt (h0.blocks.2 d hd) hne)⟩
theorem OwnH.only {S : Nat → Prop} (h : OwnH w lo A n c bs) (h0 : OwnH w0 lo0 A n c bs) (hg : OnlyB S w w') (hne : ∀ k, S k → ¬ (lo0 ≤ k ∧ k < w0.heap.size)) : OwnH w' lo A n c bs :=
  ⟨hg.own h.row (fun k hk hs => hne k hs (h0.blocks.1 k hk)), h.len, fun d hd => hg.own (h.dat.own d hd) (fun k hk hs => hne k hs (h0.blocks.2 d hd k hk)), h.dat.len, h.dat.apart⟩
theorem OwnH.blk (h : OwnH w lo A n c bs) {k : Nat} (hk : blkH A n c bs k) : lo ≤ k ∧ k < w.heap.size := by
  rcases hk with e | ⟨d, hd, e⟩
  · exact h.row.lt k e
  · exact (h.dat.own d hd).lt k e
theorem sum_flat {ls : List SD} (hx : bs.map HE.sd = ls) (hl : ∀ d ∈ bs, d.es.length = d.n) : sumH bs = (flatK ls).length := by
  subst hx
  unfold sumH flatK
  rw [List.length_flatMap, List.map_map]
  congr 1
  exact List.map_congr_left (fun d hd => (hl d hd).symm)
/-- One row is written on, in its own block or in a new one. -/
theorem OwnHL.app {l m : List HE} {x d' : HE} (h : OwnHL w lo (l ++ x :: m)) (hg : w.grownBy w' x.v.ownBlock) (ho : w'.ownsRow lo 40 5 d'.v d'.n (d'.es.flatMap KE.cells)) (hs : d'.es.length = d'.n)
    (hb : d'.v.ownBlock = x.v.ownBlock ∨ ∃ s, d'.v.ownBlock = some s ∧ w.heap.size ≤ s) : OwnHL w' lo (l ++ d' :: m) := by
  obtain ⟨a1, a2, a3⟩ := List.pairwise_append.1 h.apart
  obtain ⟨b1, b2⟩ := List.pairwise_cons.1 a2
  have hsym : ∀ {a b : HE}, ApartH a b → ApartH b a := fun {a b} hh => by
    unfold ApartH at *
    rcases hh with hh | hh
    · rw [hh]
      cases b.v.ownBlock <;> simp
    · exact .inr (fun e => hh e.symm)
  have hap : ∀ a ∈ l ++ m, ApartH a x → ApartH a d' := fun a ha hh => by
    unfold ApartH at *
    rcases hb with hb | ⟨s, hb, hs2⟩
    · rw [hb]; exact hh
    · cases hv : a.v.ownBlock with
      | none => exact .inl rfl
      | some i =>
        refine .inr (fun e => ?_)
        rw [hb] at e
        injection e with e
        have hin : a ∈ l ++ x :: m := by rcases List.mem_append.1 ha with ha | ha; exact List.mem_append_left _ ha; exact List.mem_append_right _ (by simp [ha])
        have := (h.lt hin i hv).2
        omega
  refine h.turn0 (fun e he => ?_) ho hs (fun a ha => hap a (List.mem_append_left _ ha) (a3 a ha x (by simp))) (fun b hb2 => hsym (hap b (List.mem_append_right _ hb2) (hsym (b1 b hb2))))
  rcases List.mem_append.1 he with he | he
  · exact (h.own e (List.mem_append_left _ he)).kept hg (a3 e he x (by simp))
  · exact (h.own e (List.mem_append_right _ (by simp [he]))).kept hg (hsym (b1 e he))
structure HSm (M n : Nat) (bs : List HE) (ls : List SD) : Prop where
  c : n ≤ M
  e : ∀ d ∈ bs, d.n ≤ M
  s : endH 1 bs ≤ 1 + 5 * M
  q : endH 1 bs = 1 + 2 * ls.length + 5 * (flatK ls).length
  k : n = ls.length
  l : ∀ d ∈ bs, d.es.length = d.n
theorem HSm.of {M : Nat} {ls : List SD} (hn : bs.length = n) (hl : ∀ d ∈ bs, d.es.length = d.n) (hx : bs.map HE.sd = ls) (h1 : ls.length + (flatK ls).length ≤ M) : HSm M n bs ls := by
  have e1 := sum_flat hx hl
  have e2 : n = ls.length := by rw [← hn, ← hx, List.length_map]
  refine ⟨by omega, fun d hd => ?_, by rw [endH_sum]; omega, by rw [endH_sum, e1]; omega, e2, hl⟩
  have := mem_sum (List.mem_map_of_mem (f := HE.n) hd)
  unfold sumH at e1
  omega
theorem OwnH.small {M : Nat} {ls : List SD} (h : OwnH w lo A n c bs) (hx : bs.map HE.sd = ls) (h1 : ls.length + (flatK ls).length ≤ M) : HSm M n bs ls := HSm.of h.len h.dat.len hx h1
end
end Go.Proofs.Ytpgnappddddlpaa
namespace Go.Proofs.Ytpgnappddddlpaa
open Go.RowKit
set_option linter.unusedVariables false

/-- A list of shards of the call's own; its blocks lie from l to h. -/
def HOwn (w : World) (lo l h : Nat) (A : Option Addr) (n c : Nat) (ls : List SD) : Prop := ∃ bs, OwnH w lo A n c bs ∧ bs.map HE.sd = ls ∧ ∀ g, blkH A n c bs g → l ≤ g ∧ g < h
/-- A list of shards that reads. -/
def HRd (w : World) (A : Option Addr) (n : Nat) (ls : List SD) : Prop := ∃ bs, SlH w A n bs ∧ bs.map HE.sd = ls
section
variable {w w' w0 : World} {lo lo' l h l1 h1 n c : Nat} {A : Option Addr} {ls : List SD} {bs : List HE}
theorem HOwn.of (ho : OwnH w lo A n c bs) (hx : bs.map HE.sd = ls) : HOwn w lo lo w.heap.size A n c ls := ⟨bs, ho, hx, fun g hg => ho.blk hg⟩
theorem HOwn.rd (k : HOwn w lo l h A n c ls) : HRd w A n ls := by
  obtain ⟨bs, ho, hx, _⟩ := k
  exact ⟨bs, ho.sl, hx⟩
theorem HOwn.len (k : HOwn w lo l h A n c ls) : n = ls.length := by
  obtain ⟨bs, ho, hx, _⟩ := k
  rw [← ho.len, ← hx, List.length_map]
theorem HRd.len (k : HRd w A n ls) : n = ls.length := by
  obtain ⟨bs, ho, hx⟩ := k
  rw [← ho.len, ← hx, List.length_map]
theorem HOwn.below (k : HOwn w lo l h A n c ls) (hb : Below w.heap.size w w') : HOwn w' lo l h A n c ls := by
  obtain ⟨bs, ho, hx, hr⟩ := k
  exact ⟨bs, ho.below hb, hx, hr⟩
theorem HOwn.mono (k : HOwn w lo l h A n c ls) (hl : lo' ≤ lo) : HOwn w lo' l h A n c ls := by
  obtain ⟨bs, ho, hx, hr⟩ := k
  exact ⟨bs, ho.mono hl, hx, hr⟩
theorem HRd.below (k : HRd w A n ls) (hb : Below w.heap.size w w') : HRd w' A n ls := by
  obtain ⟨bs, ho, hx⟩ := k
  exact ⟨bs, ho.below hb, hx⟩
theorem OwnH.but {S : Nat → Prop} (k : OwnH w lo A n c bs) (hw : OnlyB S w w') (hS : ∀ g, blkH A n c bs g → ¬ S g) : OwnH w' lo A n c bs :=
  ⟨OnlyB.own k.row hw (fun g hg => hS g (.inl hg)), k.len, fun d hd => OnlyB.own (k.dat.own d hd) hw (fun g hg => hS g (.inr ⟨d, hd, hg⟩)), k.dat.len, k.dat.apart⟩
theorem HOwn.wr (hw : Wr l1 h1 w w') (k : HOwn w lo l h A n c ls) (hd : h ≤ l1 ∨ h1 ≤ l) : HOwn w' lo l h A n c ls := by
  obtain ⟨bs, ho, hx, hr⟩ := k
  exact ⟨bs, ho.but hw (fun g hg hh => by have h2 := hr g hg; have h3 := hh.1; have h4 := hh.2; omega), hx, hr⟩
/-- A row of another type is written. -/
theorem OwnH.apartT {lo1 e sz m : Nat} {v : Value} {xs : List Value} (k : OwnH w lo A n c bs) (ho : w.ownsRow lo1 e sz v m xs) (h1 : e ≠ 85) (h2 : e ≠ 40) : ∀ g, blkH A n c bs g → v.ownBlock ≠ some g := fun g hg hv => by
  rcases hg with hg | ⟨d, hd, hg⟩
  · rcases own_types ho k.row h1 with h3 | h3
    · rw [h3] at hv; cases hv
    · exact h3 (hg.trans hv.symm)
  · rcases own_types ho (k.dat.own d hd) h2 with h3 | h3
    · rw [h3] at hv; cases hv
    · exact h3 (hg.trans hv.symm)
end
/-- The two rows of a farm of the call's own; their blocks lie from l to h. -/
structure FOwn (w : World) (lo l h : Nat) (A : Option Addr) (n c : Nat) (B : Option Addr) (m d : Nat) (es : List Int) (ls : List SD) : Prop where
  e : w.ownsRow lo 3 1 (.slice A n c) n (vi es)
  s : HOwn w lo l h B m d ls
  r : ∀ g, (Value.slice A n c).ownBlock = some g → l ≤ g ∧ g < h
structure FRd (w : World) (A : Option Addr) (n : Nat) (B : Option Addr) (m : Nat) (es : List Int) (ls : List SD) : Prop where
  e : SlI w A n es
  s : HRd w B m ls
section
variable {w w' w0 : World} {lo lo' l h l1 h1 n c m d : Nat} {A B : Option Addr} {es : List Int} {ls : List SD}
theorem FOwn.rd (k : FOwn w lo l h A n c B m d es ls) : FRd w A n B m es ls := ⟨SlI.of_own k.e, k.s.rd⟩
theorem FOwn.below (k : FOwn w lo l h A n c B m d es ls) (hb : Below w.heap.size w w') : FOwn w' lo l h A n c B m d es ls := ⟨own_below k.e hb, k.s.below hb, k.r⟩
theorem FOwn.mono (k : FOwn w lo l h A n c B m d es ls) (hl : lo' ≤ lo) : FOwn w lo' l h A n c B m d es ls := ⟨own_monoG k.e hl, k.s.mono hl, k.r⟩
theorem FRd.below (k : FRd w A n B m es ls) (hb : Below w.heap.size w w') : FRd w' A n B m es ls := ⟨k.e.below hb, k.s.below hb⟩
theorem FOwn.wr (hw : Wr l1 h1 w w') (k : FOwn w lo l h A n c B m d es ls) (hd : h ≤ l1 ∨ h1 ≤ l) : FOwn w' lo l h A n c B m d es ls := ⟨hw.own k.e k.r hd, HOwn.wr hw k.s hd, k.r⟩
theorem FOwn.wide (k : FOwn w lo l h A n c B m d es ls) (hl : l1 ≤ l) (hh : h ≤ h1) : FOwn w lo l1 h1 A n c B m d es ls := by
  obtain ⟨k1, ⟨bs, ho, hx, hr⟩, k3⟩ := k
  exact ⟨k1, ⟨bs, ho, hx, fun g hg => by have := hr g hg; omega⟩, fun g hg => by have := k3 g hg; omega⟩
end
/-- A new farm. -/
def MadeF (w : World) (N : Int) (es : List Int) (ls : List SD) (e : Ending) (w' : World) : Prop :=
  ∃ A c B d, e = .returned (.agg #[.int .i64 N, .slice A es.length c, .slice B ls.length d]) ∧ FOwn w' w.heap.size w.heap.size w'.heap.size A es.length c B ls.length d es ls ∧ Below w.heap.size w w'
/-- A new farm, or none, and whether there is one. -/
def MadeFB (w : World) (N : Int) (es : List Int) (ls : List SD) (b : Bool) (e : Ending) (w' : World) : Prop :=
  ∃ A c B d, e = .returned (.tuple #[.agg #[.int .i64 N, .slice A es.length c, .slice B ls.length d], .bool b]) ∧ FOwn w' w.heap.size w.heap.size w'.heap.size A es.length c B ls.length d es ls ∧ Below w.heap.size w w'
/-- Marks in a farm. -/
def FMk (w : World) (k : Nat) (A : Option Addr) (n : Nat) (B : Option Addr) (m kk : Nat) : Prop := SlI w A n (ints k n) ∧ ∃ bs, SlH w B m (markH (k + n) bs) ∧ endH (k + n) bs = kk ∧ ∀ e ∈ bs, e.n ≤ 1048576 ∧ e.es.length = e.n
theorem FMk.below {w w' : World} {k n m kk : Nat} {A B : Option Addr} (h : FMk w k A n B m kk) (hb : Below w.heap.size w w') : FMk w' k A n B m kk := by
  obtain ⟨h1, bs, h2, h3, h4⟩ := h
  exact ⟨h1.below hb, bs, h2.below hb, h3, h4⟩
def endFm (k : Nat) (es : List Int) (ls : List SD) : Nat := k + es.length + 2 * ls.length + 5 * (flatK ls).length
def MarkedF (w : World) (l h k : Nat) (A : Option Addr) (n : Nat) (B : Option Addr) (m kk : Nat) (e : Ending) (w' : World) : Prop :=
  e = .returned (.int .i64 (kk : Int)) ∧ FMk w' k A n B m kk ∧ Wr l h w w'
/-- What a farm that reads says of its rows. -/
theorem FRd.open_ {w : World} {A B : Option Addr} {n m : Nat} {es : List Int} {ls : List SD} (h : FRd w A n B m es ls) (hm : ls.length + (flatK ls).length ≤ 1048576) : ∃ bs, SlI w A n es ∧ SlH w B m bs ∧ sdL bs = ls ∧ m ≤ 1048576 ∧ ∀ e ∈ bs, e.n ≤ 1048576 := by
  obtain ⟨h1, bs, h2, h3⟩ := h
  have hsm := HSm.of (M := 1048576) h2.len (fun e he => (h2.each e he).rd.len) h3 hm
  exact ⟨bs, h1, h2, h3, hsm.c, hsm.e⟩
end Go.Proofs.Ytpgnappddddlpaa
namespace Go.Proofs.Ytpgnappddddlpaa
open Go.RowKit
set_option linter.unusedVariables false

section
variable (N : Int) (A : Option Addr) (n c : Nat) (E : List Int) (B : Option Addr) (m d : Nat) (ls : List SD) (w : World) (h : FRd w A n B m E ls) (hn : n ≤ 1048576) (hm : ls.length + (flatK ls).length ≤ 1048576)
include h hn hm
theorem implFarmOk_k : Calls Try.prog 18 #[.agg #[.int .i64 N, .slice A n c, .slice B m d]] w (GTell w (farmB N E ls)) := by
  obtain ⟨bs, q1, q2, rfl, q4, q5⟩ := h.open_ hm
  exact implFarmOk N A n c E B m d bs w q1 q2 hn q4 q5
theorem specFarmOk_k : Calls Try.prog 23 #[.agg #[.int .i64 N, .slice A n c, .slice B m d]] w (GTell w (farmB N E ls)) := by
  obtain ⟨bs, q1, q2, rfl, q4, q5⟩ := h.open_ hm
  exact specFarmOk N A n c E B m d bs w q1 q2 hn q4 q5
theorem implFarmGraph_k : Calls Try.prog 35 #[.agg #[.int .i64 N, .slice A n c, .slice B m d]] w (MadeGr w (farmN N E ls) (farmG N E ls)) := by
  obtain ⟨bs, q1, q2, rfl, q4, q5⟩ := h.open_ hm
  exact implFarmGraph N A n c E B m d bs w q1 q2 hn q4 q5
theorem specFarmGraph_k : Calls Try.prog 34 #[.agg #[.int .i64 N, .slice A n c, .slice B m d]] w (MadeGr w (farmN N E ls) (farmG N E ls)) := by
  obtain ⟨bs, q1, q2, rfl, q4, q5⟩ := h.open_ hm
  exact specFarmGraph N A n c E B m d bs w q1 q2 hn q4 q5
theorem implGraphOf_k : Calls Try.prog 55 #[.agg #[.int .i64 N, .slice A n c, .slice B m d]] w (MadeJ w (farmN N E ls) (farmG N E ls) (farmB N E ls)) := by
  obtain ⟨bs, q1, q2, rfl, q4, q5⟩ := h.open_ hm
  exact implGraphOf N A n c E B m d bs w q1 q2 hn q4 q5
end
end Go.Proofs.Ytpgnappddddlpaa
namespace Go.Proofs.Ytpgnappddddlpaa
open Go.RowKit

theorem szEdges_any (A : Option Addr) (n c : Nat) (left : Int) (w : World) (hn : n ≤ maxLen) (h0 : 0 ≤ left) (h1 : left ≤ 1048576) :
    Calls Try.prog 70 #[.slice A n c, .int .i64 left] w fun e w' => e = .returned (.int .i64 (leftG left n)) ∧ w = w' := by
  unfold maxLen at hn
  by_cases h : (n : Int) ≤ left
  · have HV := Lib.hid (leftG_pos h)
    have h2 : 0 ≤ left - (n : Int) := by omega
    go_enter Try.func70, Try.ntmps70
    go_wp2
    go_ret
    exact ⟨g_int HV.out.symm, rfl⟩
  · have HV := Lib.hid (leftG_neg (n := n) (left := left) (by omega))
    have h2 : left - (n : Int) < 0 := by omega
    go_enter Try.func70, Try.ntmps70
    go_wp2
    go_ret
    exact ⟨g_int HV.out.symm, rfl⟩
theorem szGraph_any (N : Int) (A : Option Addr) (n c : Nat) (left : Int) (w : World) (hn : n ≤ maxLen) (h0 : 0 ≤ left) (h1 : left ≤ 1048576) :
    Calls Try.prog 26 #[.agg #[.int .i64 N, .slice A n c], .int .i64 left] w (GNum w (leftG left n)) := by
  have C := Lib.hid (fun w => szEdges_any A n c left w hn h0 h1)
  by_cases h : (n : Int) ≤ left
  · have h2 : 0 ≤ left - (n : Int) := by omega
    have e1 := leftG_pos h
    rw [e1] at C ⊢
    generalize left - (n : Int) = q at C h2 ⊢
    clear e1 h
    go_enter Try.func26, Try.ntmps26
    go_wp2_with fail
    refine (C.out _).mono ?_
    rintro e w1 ⟨rfl, rfl⟩
    go_wp2
    go_ret
    exact ⟨rfl, below_a1 _ _⟩
  · have e1 := leftG_neg (n := n) (left := left) (by omega)
    rw [e1] at C ⊢
    clear e1 h
    go_enter Try.func26, Try.ntmps26
    go_wp2_with fail
    refine (C.out _).mono ?_
    rintro e w1 ⟨rfl, rfl⟩
    go_wp2
    go_ret
    exact ⟨rfl, below_a1 _ _⟩

theorem toEdge_any (e : GE) (w : World) :
    Calls Try.prog 120 #[.agg #[.int .i64 e.f, .int .i64 e.t, .int .i64 e.w]] w fun r w' => r = .returned (.agg #[.int .i64 e.f, .int .i64 e.t, .int .i64 e.w]) ∧ Below w.heap.size w w' := by
  go_enter Try.func120, Try.ntmps120
  go_wp2
  refine bodyPost_ret (v := .agg #[.int .i64 e.f, .int .i64 e.t, .int .i64 e.w]) (by simp [results, Try.results120, go_sem]) rfl ⟨rfl, ?_⟩
  repeat (first | exact below_a3 _ _ _ _ | refine Below.setCell ?_ (by simp <;> omega) _)

set_option maxRecDepth 10000 in
set_option maxHeartbeats 1000000 in
theorem toEdges_any (A : Option Addr) (n c : Nat) (es : List GE) (w : World) (hr : SlG w A n es) (hn : n ≤ 2097152) :
    Calls Try.prog 73 #[.slice A n c] w (MadeG w es) := by
  obtain ⟨i0, hi, hz0, hz1, hz2⟩ := info_parts Try.infoEdge
  have HR := Lib.hid hr
  clear hr
  go_enter Try.func73, Try.ntmps73
  go_wp2_with (refine wpList_make_full _ rfl (.tmp 6) (.tmp 6) 56 rfl w.heap.size 145 i0 (.agg #[.int .i64 0, .int .i64 0, .int .i64 0]) 3 Try.underlying56 hi hz0 hz1 .i64 .i64 _ _ n rfl rfl rfl rfl (by rw [hz2]; omega) (by unfold maxLen; omega) (Nat.le_refl _) ?_; intro w1 hown hg)
  have hb1 : Below w.heap.size w w1 := (Below.refl _ _).grown hg (Nat.le_refl _) (by simp)
  have hown1 : w1.ownsRow w.heap.size 145 3 (.slice (some ⟨w.heap.size, 0, none⟩) n n) n ((es.take 0 ++ List.replicate (n - 0) zeroG).flatMap GE.cells) := by
    have h := hown
    rw [g_rep GE.cells zeroG 3 GE.cells_len (by omega) (Value.agg #[.int .i64 0, .int .i64 0, .int .i64 0]).cells rfl n] at h
    simpa using h
  clear hown hg
  have HO1 := Lib.hid hown1
  have HB1 := Lib.hid hb1
  clear hown1 hb1
  go_loopw [4] (fun i wr => ∃ k : Nat, k ≤ n ∧ i = .int .i64 k ∧ Hid (wr.ownsRow w.heap.size 145 3 (.slice (some ⟨w.heap.size, 0, none⟩) n n) n ((es.take k ++ List.replicate (n - k) zeroG).flatMap GE.cells)) ∧ Hid (Below w.heap.size w wr)) (fun i _ => n - (intOf i).toNat)
  case atStart => exact ⟨0, Nat.zero_le _, rfl, HO1, HB1⟩
  case round =>
    clear HO1 HB1
    obtain ⟨k, hk, rfl, hown, hbel⟩ := hrel
    by_cases hlt : k < n
    · obtain ⟨b, off, e, rfl, hbw, he, c0, c1, c2⟩ := HR.out.at_ hlt
      have c0 := (hbel.out.cell (p := ⟨b, off + k * 3, none⟩) hbw).trans c0
      have c1 := (hbel.out.cell (p := ⟨b, off + k * 3 + 1, none⟩) hbw).trans c1
      have c2 := (hbel.out.cell (p := ⟨b, off + k * 3 + 2, none⟩) hbw).trans c2
      have HC := Lib.hid (toEdge_any e wr)
      have hmk : (es.take k).length = k := by rw [List.length_take, HR.out.len]; omega
      go_wp2_with fail
      refine HC.out.mono ?_
      rintro e1 w2 ⟨rfl, hb2⟩
      have HB2 := Lib.hid hb2
      have hown2 := own_below hown.out hb2
      rw [rep_succ n k hlt] at hown2
      have hq := fun i (hi : i < 3) => (hown2.cellAt (k * 3 + i) (by omega)).trans (flat_get GE.cells 3 GE.cells_len _ k i zeroG (g_get _ _ _ _ hmk) hi)
      have hc0 : w2.cell? ⟨w.heap.size, k * 3, none⟩ = some (.int .i64 0) := hq 0 (by omega)
      have hc1 : w2.cell? ⟨w.heap.size, k * 3 + 1, none⟩ = some (.int .i64 0) := hq 1 (by omega)
      have hc2 : w2.cell? ⟨w.heap.size, k * 3 + 2, none⟩ = some (.int .i64 0) := hq 2 (by omega)
      have hf0 := hown2.frozenAt (k * 3)
      have hf1 := hown2.frozenAt (k * 3 + 1)
      have hf2 := hown2.frozenAt (k * 3 + 2)
      have HL := Lib.hid (g_lay (e := e) hown2 hmk)
      clear hown2 hq hb2
      go_wp2
      go_roundw
      case rel =>
        refine ⟨k + 1, by omega, by go_num, Lib.hid ?_, Lib.hid (((((g_chain hbel.out HB2.out).setCell (Nat.le_refl _) _).setCell (Nat.le_refl _) _).setCell (Nat.le_refl _) _))⟩
        rw [g_take es k e he.out, List.append_assoc]
        exact HL.out.1
      case measure => simp [intOf]; omega
    · obtain rfl : k = n := by omega
      go_wp2
      go_ret
      have hfin := hown.out
      rw [Nat.sub_self, List.replicate_zero, List.append_nil, List.take_of_length_le (by rw [HR.out.len]; exact Nat.le_refl _), ← HR.out.len] at hfin
      refine ⟨some ⟨w.heap.size, 0, none⟩, es.length, ?_, hfin, hbel.out⟩
      rw [HR.out.len]
      rfl
set_option maxHeartbeats 400000 in
theorem toGraph_any (N : Int) (A : Option Addr) (n c : Nat) (es : List GE) (w : World) (hr : SlG w A n es) (hn : n ≤ 2097152) :
    Calls Try.prog 28 #[.agg #[.int .i64 N, .slice A n c]] w (MadeGr w N es) := by
  have C := Lib.hid (fun w' (hb : Below w.heap.size w w') => toEdges_any A n c es w' (hr.below hb) hn)
  clear hr
  go_enter Try.func28, Try.ntmps28
  go_wp2_with fail
  refine (C.out _ ?_).mono ?_
  · repeat (first | exact below_a3 _ _ _ _ | refine Below.setCell ?_ (by simp <;> omega) _)
  · rintro e w1 ⟨A1, c1, rfl, ho1, hb1⟩
    obtain ⟨hc, hf⟩ := bcell hb1
    have hz : w.heap.size + 1 + 1 < w1.heap.size := by have := hb1.size; simp at this; omega
    have HB := Lib.hid hb1
    clear hb1
    go_wp2
    refine bodyPost_ret (v := .agg #[.int .i64 N, .slice A1 es.length c1]) (by simp [results, Try.results28, go_sem, hc]) rfl ⟨A1, c1, rfl, ?_, ?_⟩
    · have ho2 := ho1
      rw [World.size_alloc, World.size_alloc, World.size_alloc] at ho2
      refine own_monoG (lo := w.heap.size + 1 + 1 + 1) ?_ (by omega)
      repeat (first | exact ho2 | refine own_lowG ?_ (by simp <;> omega) _)
    · repeat (first | exact g_chain (by repeat (first | exact below_a3 _ _ _ _ | refine Below.setCell ?_ (by simp <;> omega) _)) HB.out | refine Below.setCell ?_ (by simp <;> omega) _)
end Go.Proofs.Ytpgnappddddlpaa
namespace Go.Proofs.Ytpgnappddddlpaa
open Go.RowKit

theorem szZ_any (A : Option Addr) (n c : Nat) (left : Int) (w : World) (hn : n ≤ maxLen) (h0 : 0 ≤ left) (h1 : left ≤ 1048576) :
    Calls Try.prog 63 #[.slice A n c, .int .i64 left] w fun e w' => e = .returned (.int .i64 (leftG left n)) ∧ w = w' := by
  unfold maxLen at hn
  by_cases h : (n : Int) ≤ left
  · have HV := Lib.hid (leftG_pos h)
    have h2 : 0 ≤ left - (n : Int) := by omega
    go_enter Try.func63, Try.ntmps63
    go_wp2
    go_ret
    exact ⟨g_int HV.out.symm, rfl⟩
  · have HV := Lib.hid (leftG_neg (n := n) (left := left) (by omega))
    have h2 : left - (n : Int) < 0 := by omega
    go_enter Try.func63, Try.ntmps63
    go_wp2
    go_ret
    exact ⟨g_int HV.out.symm, rfl⟩
end Go.Proofs.Ytpgnappddddlpaa
namespace Go.Proofs.Ytpgnappddddlpaa
open Go.RowKit

set_option maxRecDepth 10000 in
set_option maxHeartbeats 1000000 in
theorem eqInts_any (A B : Option Addr) (n c d : Nat) (xs : List Int) (w : World) (ha : SlI w A n xs) (hb : SlI w B n xs) (hn : n ≤ 2097152) :
    Calls Try.prog 37 #[.slice A n c, .slice B n d] w (GTell w true) := by
  have HA := Lib.hid ha
  have HB := Lib.hid hb
  clear ha hb
  go_enter Try.func37, Try.ntmps37
  go_wp2
  go_loopw [5] (fun i wr => ∃ k : Nat, k ≤ n ∧ i = .int .i64 k ∧ Hid (Below w.heap.size w wr)) (fun i _ => n - (intOf i).toNat)
  case atStart => exact ⟨0, Nat.zero_le _, rfl, Lib.hid (Below.refl _ _)⟩
  case round =>
    obtain ⟨k, hk, rfl, hbel⟩ := hrel
    by_cases hlt : k < n
    · obtain ⟨b, off, e, rfl, hbw, he, c0⟩ := HA.out.at_ hlt
      obtain ⟨b', off', e', rfl, hbw', he', c0'⟩ := HB.out.at_ hlt
      have hee : e' = e := by have h1 := he.out; rw [he'.out] at h1; injection h1
      subst hee
      have c0 := (hbel.out.cell (p := ⟨b, off + k, none⟩) hbw).trans c0
      have c0' := (hbel.out.cell (p := ⟨b', off' + k, none⟩) hbw').trans c0'
      clear he he'
      go_wp2
      go_region
      go_wp2
      go_roundw
      case rel => exact ⟨k + 1, by omega, by go_num, Lib.hid (by first | exact hbel.out | exact hbel.out.drew | exact hbel.out.drew.drew)⟩
      case measure => simp [intOf]; omega
    · go_wp2
      go_ret
      exact ⟨rfl, hbel.out⟩

set_option maxRecDepth 10000 in
set_option maxHeartbeats 1000000 in
theorem markInts_any (A : Option Addr) (n c lo k : Nat) (xs : List Int) (w : World) (ho : w.ownsRow lo 3 1 (.slice A n c) n (vi xs)) (hn : n ≤ 2097152) (hk : k ≤ 8388608) :
    Calls Try.prog 38 #[.slice A n c, .int .i64 (k : Int)] w (MarkedI w lo k A n c) := by
  have hl : xs.length = n := by have := ho.1; rw [vi_len] at this; omega
  have HL := Lib.hid hl
  rcases Nat.eq_zero_or_pos n with rfl | hpos
  · obtain rfl : xs = [] := List.eq_nil_of_length_eq_zero hl
    have HO := Lib.hid ho
    clear ho hl
    go_enter Try.func38, Try.ntmps38
    go_wp2
    go_loopw [1, 5] (fun q i wr => i = .int .i64 0 ∧ q = .int .i64 (k : Int) ∧ wr = w) (fun _ _ _ => 0)
    case atStart => exact ⟨rfl, rfl, rfl⟩
    case round =>
      obtain ⟨rfl, rfl, rfl⟩ := hrel
      go_wp2
      go_ret
      exact ⟨rfl, HO.out, World.grownBy.refl _ _⟩
  · obtain ⟨g, rfl⟩ := g_own_at ho hpos
    have HO : Hid (w.ownsRow lo 3 1 (.slice (some ⟨g, 0, none⟩) n c) n (vi (markI k xs 0))) := Lib.hid (by rw [markI_zero]; exact ho)
    clear ho hl
    go_enter Try.func38, Try.ntmps38
    go_wp2
    go_loopw [1, 5] (fun q i wr => ∃ j : Nat, j ≤ n ∧ i = .int .i64 j ∧ q = .int .i64 ((k + j : Nat) : Int) ∧ Hid (wr.ownsRow lo 3 1 (.slice (some ⟨g, 0, none⟩) n c) n (vi (markI k xs j))) ∧ Hid (w.grownBy wr (some g))) (fun _ i _ => n - (intOf i).toNat)
    case atStart => exact ⟨0, Nat.zero_le _, rfl, rfl, HO, Lib.hid (World.grownBy.refl _ _)⟩
    case round =>
      clear HO
      obtain ⟨j, hj, rfl, rfl, hown, hgr⟩ := hrel
      by_cases hlt : j < n
      · have hc := hown.out.cellAt j (by omega)
        have hx : (vi (markI k xs j))[j]? = some (.int .i64 (xs[j]'(by rw [HL.out]; exact hlt))) := by
          rw [vi_get]
          unfold markI
          rw [List.getElem?_append_right (by rw [ints_len]; exact Nat.le_refl _), ints_len, Nat.sub_self, List.getElem?_drop, Nat.add_zero, List.getElem?_eq_getElem]
          rfl
        have hc0 := hc.trans hx
        have hf0 := hown.out.frozenAt j
        have HS := Lib.hid (hown.out.stored j (.int .i64 ((k + j : Nat) : Int)))
        rw [markI_step k xs j (by rw [HL.out]; exact hlt)] at HS
        clear hc hx hown
        go_wp2
        go_roundw
        case rel => exact ⟨j + 1, by omega, by go_num, by go_num, Lib.hid HS.out.1, Lib.hid (hgr.out.trans HS.out.2)⟩
        case measure => simp [intOf]; omega
      · obtain rfl : j = n := by omega
        go_wp2
        go_ret
        refine ⟨rfl, ?_, hgr.out⟩
        have h := hown.out
        rw [show markI k xs j = ints k j by rw [← HL.out, markI_full]] at h
        exact h

set_option maxRecDepth 10000 in
set_option maxHeartbeats 1000000 in
theorem heldInts_any (A : Option Addr) (n c k : Nat) (w : World) (hr : SlI w A n (ints k n)) (hn : n ≤ 2097152) (hk : k ≤ 8388608) :
    Calls Try.prog 39 #[.slice A n c, .int .i64 (k : Int)] w fun e w' => e = .returned (.int .i64 ((k + n : Nat) : Int)) ∧ w = w' := by
  have HR := Lib.hid hr
  clear hr
  go_enter Try.func39, Try.ntmps39
  go_wp2
  go_loopw [1, 5] (fun q i wr => ∃ j : Nat, j ≤ n ∧ i = .int .i64 j ∧ q = .int .i64 ((k + j : Nat) : Int) ∧ wr = w) (fun _ i _ => n - (intOf i).toNat)
  case atStart => exact ⟨0, Nat.zero_le _, rfl, by rfl, by first | rfl | trivial⟩
  case round =>
    obtain ⟨j, hj, rfl, rfl, rfl⟩ := hrel
    by_cases hlt : j < n
    · obtain ⟨b, off, e, rfl, hbw, he, c0⟩ := HR.out.at_ hlt
      obtain rfl : e = ((k + j : Nat) : Int) := by have h1 := he.out; rw [ints_get k n j hlt] at h1; injection h1 with h1; exact h1.symm
      go_wp2
      go_roundw
      case rel => exact ⟨j + 1, by omega, by go_num, by go_num, by first | rfl | trivial⟩
      case measure => simp [intOf]; omega
    · obtain rfl : j = n := by omega
      go_wp2
      go_ret
      exact ⟨rfl, rfl⟩

end Go.Proofs.Ytpgnappddddlpaa
namespace Go.Proofs.Ytpgnappddddlpaa
open Go.RowKit

/-- Shapes of plain data; a struct is a chain of pairs. -/
inductive Sh where
  | int (k : IntKind)
  | bool
  | str
  | sl (e : Sh)
  | pair (a b : Sh)

def Sh.size : Sh → Nat
  | .int _ => 1
  | .bool => 1
  | .str => 1
  | .sl _ => 1
  | .pair a b => a.size + b.size
def Sh.D : Sh → Type
  | .int _ => Int
  | .bool => Bool
  | .str => ByteArray
  | .sl e => List e.D
  | .pair a b => a.D × b.D

/-- The cells from an address on. -/
def CellsAt (w : World) (b off : Nat) (cs : List Value) : Prop := ∀ (i : Nat) (v : Value), cs[i]? = some v → w.cell? ⟨b, off + i, none⟩ = some v
theorem CellsAt.same {w w' : World} {b off : Nat} {cs : List Value} (h : CellsAt w b off cs) (hb : w'.heap[b]? = w.heap[b]?) : CellsAt w' b off cs :=
  fun i v hv => (World.cell?_of_block (a := ⟨b, off + i, none⟩) hb).trans (h i v hv)

def RdR (lo hi : Nat) (w : World) : (s : Sh) → List Value → s.D → Prop
  | .int k, cs, n => cs = [.int k n] ∧ (Lit.int k n).wf = true
  | .bool, cs, b => cs = [.bool b]
  | .str, cs, x => cs = [.string x] ∧ ByteArray.size x ≤ maxLen
  | .sl e, cs, ds => ∃ A n c, cs = [.slice A n c] ∧ List.length ds = n ∧ n ≤ c ∧ c ≤ maxLen ∧ (0 < n → ∃ b off, A = some ⟨b, off, none⟩ ∧ lo ≤ b ∧ b < hi ∧
      ∀ (j : Nat) (d : e.D), (show List e.D from ds)[j]? = some d → ∃ es, es.length = e.size ∧ CellsAt w b (off + j * e.size) es ∧ RdR lo hi w e es d)
  | .pair a b, cs, d => ∃ c1 c2, cs = c1 ++ c2 ∧ c1.length = a.size ∧ RdR lo hi w a c1 d.1 ∧ RdR lo hi w b c2 d.2

theorem RdR.len {lo hi : Nat} {w : World} : ∀ {s : Sh} {cs : List Value} {d : s.D}, RdR lo hi w s cs d → cs.length = s.size
  | .int _, _, _, h => by rw [h.1]; rfl
  | .bool, _, _, h => by rw [show _ = _ from h]; rfl
  | .str, _, _, h => by rw [h.1]; rfl
  | .sl _, _, _, h => by obtain ⟨_, _, _, e, _⟩ := h; rw [e]; rfl
  | .pair _ _, _, _, h => by
    obtain ⟨c1, c2, e, h1, _, h2⟩ := h
    rw [e, List.length_append, h1, RdR.len h2]
    rfl

/-- Where the blocks from lo on and below hi are as they were, the reading is too; and the bounds may be widened. -/
theorem RdR.keep {lo hi lo' hi' : Nat} {w w' : World} (hl : lo' ≤ lo) (hh : hi ≤ hi') (hs : ∀ k, lo ≤ k → k < hi → w'.heap[k]? = w.heap[k]?) :
    ∀ {s : Sh} {cs : List Value} {d : s.D}, RdR lo hi w s cs d → RdR lo' hi' w' s cs d
  | .int _, _, _, h => h
  | .bool, _, _, h => h
  | .str, _, _, h => h
  | .sl e, _, _, h => by
    obtain ⟨A, n, c, e1, e2, e3, e4, h⟩ := h
    refine ⟨A, n, c, e1, e2, e3, e4, fun hn => ?_⟩
    obtain ⟨b, off, eA, hb1, hb2, h⟩ := h hn
    refine ⟨b, off, eA, by omega, by omega, fun j d hd => ?_⟩
    obtain ⟨es, hl2, hc, hr⟩ := h j d hd
    exact ⟨es, hl2, hc.same (hs b hb1 hb2), RdR.keep hl hh hs hr⟩
  | .pair _ _, _, _, h => by
    obtain ⟨c1, c2, e, h1, ha, hb⟩ := h
    exact ⟨c1, c2, e, h1, RdR.keep hl hh hs ha, RdR.keep hl hh hs hb⟩

theorem RdR.below {lo hi B : Nat} {w w' : World} {s : Sh} {cs : List Value} {d : s.D} (h : RdR lo hi w s cs d) (hb : Below B w w') (hB : hi ≤ B) : RdR lo hi w' s cs d :=
  h.keep (Nat.le_refl _) (Nat.le_refl _) (fun k _ hk => hb.block k (by omega))
theorem RdR.drewN {lo hi : Nat} {w : World} {s : Sh} {cs : List Value} {d : s.D} (h : RdR lo hi w s cs d) (k : Nat) : RdR lo hi (w.drewN k) s cs d :=
  RdR.keep (w := w) (w' := w.drewN k) (Nat.le_refl _) (Nat.le_refl _) (fun _ _ _ => rfl) h
theorem RdR.widen {lo hi lo' hi' : Nat} {w : World} {s : Sh} {cs : List Value} {d : s.D} (h : RdR lo hi w s cs d) (hl : lo' ≤ lo) (hh : hi ≤ hi') : RdR lo' hi' w s cs d :=
  h.keep hl hh (fun _ _ _ => rfl)

/-- The element at place j of a slice that reads so. -/
theorem RdR.at_ {lo hi : Nat} {w : World} {e : Sh} {A : Option Addr} {n c j : Nat} {ds : List e.D} (h : RdR lo hi w (.sl e) [.slice A n c] ds) (hj : j < n) :
    ∃ (b off : Nat) (es : List Value) (d : e.D), A = some ⟨b, off, none⟩ ∧ lo ≤ b ∧ b < hi ∧ Hid (ds[j]? = some d) ∧ es.length = e.size ∧ CellsAt w b (off + j * e.size) es ∧ RdR lo hi w e es d := by
  obtain ⟨A', n', c', e1, e2, _, _, h⟩ := h
  simp only [List.cons.injEq, Value.slice.injEq, and_true] at e1
  obtain ⟨rfl, rfl, rfl⟩ := e1
  obtain ⟨b, off, eA, hb1, hb2, h⟩ := h (by omega)
  have hl : j < List.length ds := by omega
  obtain ⟨es, h1, h2, h3⟩ := h j ds[j] (List.getElem?_eq_getElem hl)
  exact ⟨b, off, es, ds[j], eA, hb1, hb2, List.getElem?_eq_getElem hl, h1, h2, h3⟩
theorem add_plain (b off j : Nat) : ((⟨b, off, none⟩ : Addr).add j) = ⟨b, off + j, none⟩ := by unfold Addr.add; split <;> simp_all
theorem add_spot {w : World} {a : Addr} {v : Value} (h : w.cell? (a.add 0) = some v) : a.spot = none := by
  have h1 := World.cell?_spot h
  simpa [Addr.add] using h1

section
variable {H : Type} {enc : TypeId × Value → H} {P : Program} {w : World} {base : Nat} {spare : Nat → Bool} {held : Bool}

/-- Whatever reads at the type t (as the form reads arguments) reads as a datum of the shape s. -/
def Opens (enc : TypeId × Value → H) (P : Program) (w : World) (base : Nat) (spare : Nat → Bool) (held : Bool) (t : TypeId) (s : Sh) : Prop :=
  ∀ (fuel : Nat) (cs : List Value) (x : DataW H × List MemPlace), DataW.trod enc P w base spare held fuel t cs = some x → ∃ d : s.D, RdR 0 w.heap.size w s cs d
theorem opens_int {t : TypeId} {k : IntKind} (ht : P.underlying t = some (.int k)) : Opens enc P w base spare held t (.int k) := fun _ _ _ h => by
  obtain ⟨n, e, _, hw⟩ := DataW.trod_int ht h
  exact ⟨n, e, hw⟩
theorem opens_bool {t : TypeId} (ht : P.underlying t = some .bool) : Opens enc P w base spare held t .bool := fun _ _ _ h => by
  obtain ⟨b, e, _⟩ := DataW.trod_bool ht h
  exact ⟨b, e⟩
theorem opens_str {t : TypeId} (ht : P.underlying t = some .string) : Opens enc P w base spare held t .str := fun _ _ _ h => by
  obtain ⟨x, e, _, hw⟩ := DataW.trod_string ht h
  exact ⟨x, e, hw⟩
theorem opens_sl {t e : TypeId} {s : Sh} (ht : P.underlying t = some (.slice e)) (hc : P.cellsOf e = s.size) (hs : 0 < s.size) (ho : Opens enc P w base spare held e s) : Opens enc P w base spare held t (.sl s) := fun _ _ _ h => by
  rcases DataW.trod_slice ht h with ⟨rfl, _⟩ | ⟨a, len, cap, elems, rest, n, _, rfl, _, _, hl, hmx, hlen, hel, hsp1, hsp2⟩
  · exact ⟨([] : List s.D), none, 0, 0, rfl, rfl, Nat.le_refl _, Nat.zero_le _, fun h0 => absurd h0 (by omega)⟩
  · have each : ∀ i, i < len → ∃ (es : List Value) (d : s.D), es.length = s.size ∧ (∀ j, j < s.size → w.cell? (a.add (i * s.size + j)) = es[j]?) ∧ RdR 0 w.heap.size w s es d := by
      intro i hi
      have h1 := hel i hi
      rw [List.getElem?_eq_getElem (by omega), Option.bind_eq_some_iff] at h1
      obtain ⟨es, hes, htr⟩ := h1
      obtain ⟨_, h2, h3⟩ := World.cells?_some hes
      obtain ⟨d, hd⟩ := ho _ _ _ htr
      refine ⟨es, d, by rw [h2, hc], fun j hj => ?_, hd⟩
      have := h3 j (by rw [hc]; exact hj)
      rw [hc] at this
      rw [← this]
      congr 1
      unfold Addr.add
      by_cases h01 : i * s.size = 0 <;> by_cases h02 : j = 0 <;> simp [h01, h02, Nat.add_assoc]
    have hall : ∃ ds : List s.D, ds.length = len ∧ ∀ (i : Nat) (d : s.D), ds[i]? = some d → ∃ es : List Value, es.length = s.size ∧ (∀ j, j < s.size → w.cell? (a.add (i * s.size + j)) = es[j]?) ∧ RdR 0 w.heap.size w s es d := by
      clear hel h hl hlen hsp1 hsp2
      induction len with
      | zero => exact ⟨[], rfl, fun i d h => by simp at h⟩
      | succ m ih =>
        obtain ⟨ds, hd1, hd2⟩ := ih (fun i hi => each i (by omega))
        obtain ⟨es, d, h1, h2, h3⟩ := each m (by omega)
        refine ⟨ds ++ [d], by simp [hd1], fun i d' hi => ?_⟩
        rcases Nat.lt_trichotomy i m with hlt | heq | hgt
        · rw [List.getElem?_append_left (by omega)] at hi
          exact hd2 i d' hi
        · subst heq
          rw [List.getElem?_append_right (by omega), hd1, Nat.sub_self] at hi
          simp at hi
          subst hi
          exact ⟨es, h1, h2, h3⟩
        · rw [List.getElem?_eq_none (by simp; omega)] at hi
          cases hi
    obtain ⟨ds, hd1, hd2⟩ := hall
    refine ⟨ds, some a, len, cap, rfl, hd1, hl, hmx, fun h0 => ?_⟩
    obtain ⟨es0, d0, h1, h2, _⟩ := each 0 h0
    have hc0 : w.cell? (a.add 0) = some es0[0] := by
      have := h2 0 hs
      rw [Nat.zero_mul, Nat.add_zero] at this
      rw [this, List.getElem?_eq_getElem (by omega)]
    have hsp := add_spot hc0
    obtain ⟨b, off, sp⟩ := a
    simp only at hsp
    subst hsp
    have hlt : b < w.heap.size := by
      rw [add_plain] at hc0
      exact World.block_lt_of_cell? w _ hc0
    refine ⟨b, off, rfl, Nat.zero_le _, hlt, fun j d hj => ?_⟩
    obtain ⟨es, h3, h4, h5⟩ := hd2 j d hj
    refine ⟨es, h3, fun i v hv => ?_, h5⟩
    have hi : i < s.size := by have := (List.getElem?_eq_some_iff.1 hv).1; omega
    have := h4 i hi
    rw [add_plain, ← Nat.add_assoc] at this
    rw [this, hv]

/-- The fields of a struct from one on. -/
def OpensF (enc : TypeId × Value → H) (P : Program) (w : World) (base : Nat) (spare : Nat → Bool) (held : Bool) (fs : List Field) (off : Nat) (s : Sh) : Prop :=
  ∀ cs : List Value, (∀ f ∈ fs, ∃ (n : Nat) (y : DataW H × List MemPlace), DataW.trod enc P w base spare held n f.type ((cs.drop f.offset).take (P.cellsOf f.type)) = some y) → cs.length = off + s.size → ∃ d : s.D, RdR 0 w.heap.size w s (cs.drop off) d
theorem opensF_last {f : Field} {off : Nat} {s : Sh} (h1 : f.offset = off) (hc : P.cellsOf f.type = s.size) (ho : Opens enc P w base spare held f.type s) : OpensF enc P w base spare held [f] off s := fun cs hf hl => by
  obtain ⟨n, y, h⟩ := hf f (by simp)
  obtain ⟨d, hd⟩ := ho _ _ _ h
  rw [h1, hc, List.take_of_length_le (by rw [List.length_drop]; omega)] at hd
  exact ⟨d, hd⟩
theorem opensF_cons {f : Field} {fs : List Field} {off : Nat} {a b : Sh} (h1 : f.offset = off) (hc : P.cellsOf f.type = a.size) (ho : Opens enc P w base spare held f.type a) (hr : OpensF enc P w base spare held fs (off + a.size) b) :
    OpensF enc P w base spare held (f :: fs) off (.pair a b) := fun cs hf hl => by
  obtain ⟨n, y, h⟩ := hf f (by simp)
  obtain ⟨d, hd⟩ := ho _ _ _ h
  rw [h1, hc] at hd
  have hsz : (Sh.pair a b).size = a.size + b.size := rfl
  obtain ⟨d2, hd2⟩ := hr cs (fun g hg => hf g (by simp [hg])) (by rw [hl, hsz]; omega)
  refine ⟨(d, d2), _, _, ?_, hd.len, hd, hd2⟩
  rw [← List.drop_drop]
  exact (List.take_append_drop _ _).symm
theorem opens_struct {t : TypeId} {fs : Array Field} {s : Sh} (ht : P.underlying t = some (.struct fs)) (hc : P.cellsOf t = s.size) (hf : OpensF enc P w base spare held fs.toList 0 s) : Opens enc P w base spare held t s := fun _ cs _ h => by
  obtain ⟨xs, n, _, _, hl, hlen, hall⟩ := DataW.trod_struct ht h
  obtain ⟨d, hd⟩ := hf cs (fun f hfm => by
    obtain ⟨i, hi, he⟩ := List.getElem_of_mem hfm
    have hi2 : i < fs.size := by simpa using hi
    have h1 := hall i f (by rw [← he]; simp [hi2])
    rw [List.getElem?_eq_getElem (by omega)] at h1
    exact ⟨n, _, h1⟩) (by rw [hl, hc]; omega)
  exact ⟨d, by simpa using hd⟩
end
end Go.Proofs.Ytpgnappddddlpaa
namespace Go.Proofs.Ytpgnappddddlpaa
open Go.RowKit

def edgeSh : Sh := .pair (.int .i64) (.pair (.int .i64) (.int .i64))
def grSh : Sh := .pair (.int .i64) (.sl edgeSh)
theorem g_build {α : Type} (f : α → List Value) (k : Nat) (hf : ∀ a, (f a).length = k) (Q : α → Prop) (w : World) (b off : Nat) : ∀ (n : Nat), (∀ j, j < n → ∃ a, Q a ∧ ∀ (i : Nat) (v : Value), (f a)[i]? = some v → w.cell? ⟨b, off + j * k + i, none⟩ = some v) →
    ∃ es : List α, es.length = n ∧ (∀ (j : Nat) (v : Value), (es.flatMap f)[j]? = some v → w.cell? ⟨b, off + j, none⟩ = some v) ∧ ∀ a ∈ es, Q a
  | 0, _ => ⟨[], rfl, fun j v hv => by simp at hv, by simp⟩
  | m + 1, h => by
    obtain ⟨es, h1, h2, h3⟩ := g_build f k hf Q w b off m (fun j hj => h j (by omega))
    obtain ⟨a, ha, hc⟩ := h m (by omega)
    refine ⟨es ++ [a], by simp [h1], fun j v hv => ?_, fun x hx => ?_⟩
    · have hl : (es.flatMap f).length = m * k := by rw [flat_len f k hf, h1]
      rw [flat_snoc] at hv
      rcases Nat.lt_or_ge j (m * k) with hj | hj
      · rw [List.getElem?_append_left (by omega)] at hv
        exact h2 j v hv
      · rw [List.getElem?_append_right (by omega), hl] at hv
        have := hc (j - m * k) v hv
        rw [show off + m * k + (j - m * k) = off + j by omega] at this
        exact this
    · rcases List.mem_append.1 hx with hx | hx
      · exact h3 x hx
      · simp at hx
        subst hx
        exact ha

def EdgeIn (e : GE) : Prop := (Lit.int .i64 e.f).wf = true ∧ (Lit.int .i64 e.t).wf = true ∧ (Lit.int .i64 e.w).wf = true
theorem RdR.edge {lo hi : Nat} {w : World} {cs : List Value} {d : edgeSh.D} (h : RdR lo hi w edgeSh cs d) : ∃ e : GE, cs = e.cells ∧ EdgeIn e := by
  obtain ⟨c1, c2, e, h1, ⟨hk, hwf⟩, hb⟩ := h
  obtain ⟨c3, c4, e', h2, ⟨hk', hwf'⟩, hc, hwf''⟩ := hb
  exact ⟨⟨d.1, d.2.1, d.2.2⟩, by rw [e, hk, e', hk', hc]; rfl, hwf, hwf', hwf''⟩
/-- What a walk is told of a graph that came in. -/
structure GrIn (w : World) (N : Int) (A : Option Addr) (n : Nat) (es : List GE) : Prop where
  N : (Lit.int .i64 N).wf = true
  g : SlG w A n es
  l : n ≤ maxLen
  e : ∀ e ∈ es, EdgeIn e
theorem RdR.edges {lo hi : Nat} {w : World} {cs : List Value} {ds : List edgeSh.D} (h : RdR lo hi w (.sl edgeSh) cs ds) (hh : hi ≤ w.heap.size) : ∃ A n c es, cs = [.slice A n c] ∧ SlG w A n es ∧ n ≤ c ∧ n ≤ maxLen ∧ ∀ e ∈ es, EdgeIn e := by
  obtain ⟨A, n, c, e1, e2, e3, e4, h⟩ := h
  rcases Nat.eq_zero_or_pos n with h0 | h0
  · subst h0
    exact ⟨A, 0, c, [], e1, SlG.nil, e3, by omega, by simp⟩
  · obtain ⟨b, off, eA, _, hb, hall⟩ := h h0
    obtain ⟨es, h1, h2, h3⟩ := g_build GE.cells 3 GE.cells_len EdgeIn w b off n (fun j hj => by
      have hjl : j < ds.length := by omega
      obtain ⟨cs, _, hc, hr⟩ := hall j (ds[j]'hjl) (List.getElem?_eq_getElem hjl)
      obtain ⟨e, rfl, he⟩ := RdR.edge hr
      exact ⟨e, he, hc⟩)
    exact ⟨A, n, c, es, e1, ⟨h1, ⟨by rw [flat_len _ 3 GE.cells_len, h1], fun _ => ⟨b, off, eA, by omega, h2⟩⟩⟩, e3, by omega, h3⟩
theorem RdR.graph {lo hi : Nat} {w : World} {cs : List Value} {d : grSh.D} (h : RdR lo hi w grSh cs d) (hh : hi ≤ w.heap.size) : ∃ N A n c es, cs = [.int .i64 N, .slice A n c] ∧ GrIn w N A n es := by
  obtain ⟨c1, c2, e, h1, ⟨hk, hwf⟩, hb⟩ := h
  obtain ⟨A, n, c, es, ea, hg, _, hl, he⟩ := RdR.edges hb hh
  exact ⟨d.1, A, n, c, es, by rw [e, hk, ea]; rfl, ⟨hwf, hg, hl, he⟩⟩

end Go.Proofs.Ytpgnappddddlpaa
namespace Go.Proofs.Ytpgnappddddlpaa
open Go.RowKit

section
variable {H : Type} {enc : TypeId × Value → H} {w : World} {base : Nat} {spare : Nat → Bool} {held : Bool}
theorem Try.cellsGi : Try.prog.cellsOf 3 = 1 := by kernel_rfl
theorem Try.cellsEd : Try.prog.cellsOf 153 = 3 := by kernel_rfl
theorem Try.cellsSEd : Try.prog.cellsOf 51 = 1 := by kernel_rfl
theorem Try.cellsGr : Try.prog.cellsOf 53 = 2 := by kernel_rfl
theorem opensEdge : Opens enc Try.prog w base spare held 153 edgeSh :=
  opens_struct Try.underlying153 Try.cellsEd (opensF_cons rfl Try.cellsGi (opens_int Try.underlying3) (opensF_cons rfl Try.cellsGi (opens_int Try.underlying3) (opensF_last rfl Try.cellsGi (opens_int Try.underlying3))))
theorem opensGraph : Opens enc Try.prog w base spare held 53 grSh :=
  opens_struct Try.underlying53 Try.cellsGr (opensF_cons rfl Try.cellsGi (opens_int Try.underlying3) (opensF_last rfl Try.cellsSEd (opens_sl Try.underlying51 Try.cellsEd (by decide) opensEdge)))

set_option maxRecDepth 100000 in
theorem open_graph {r : Reach} {b0 : Nat} {v : Value} {d : DataW H} {p : List MemPlace} (hv : Value.okWide Try.prog w r b0 53 v) (h : DataW.Trod enc Try.prog w base spare held 53 v d p) :
    ∃ N A n c es, v = .agg #[.int .i64 N, .slice A n c] ∧ GrIn w N A n es := by
  obtain ⟨cs, rfl, _⟩ := Go.WideShapes.okWide_struct Try.underlying53 hv
  obtain ⟨fuel, hf⟩ := h
  obtain ⟨x, hx⟩ := opensGraph _ _ _ hf
  obtain ⟨N, A, n, c, es, he, hi⟩ := hx.graph (Nat.le_refl _)
  refine ⟨N, A, n, c, es, ?_, hi⟩
  have : cs.toList = [.int .i64 N, .slice A n c] := by simpa [Value.cells] using he
  cases cs
  simp only at this
  rw [this]
end
end Go.Proofs.Ytpgnappddddlpaa
