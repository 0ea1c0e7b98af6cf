/- The contracts of the laws' helpers that write marks into files and operations of the call's own and look for them. Condition: at most 2^21 of each. -/
import Derived.Test.YtdeijiochianpaaTo
import Derived.Test.YtdeijiochianpaaEq
import Derived.Test.YtdeijiochianpaaMarkText
import Derived.Test.YtdeijiochianpaaSz
namespace Go.Proofs.Ytdeijiochianpaa
open Go.RowKit

/-- The marks from k on. -/
def marksK (k n : Nat) : List Nat := (List.range n).map fun i => (k + i) % 256
theorem marksK_length (k n : Nat) : (marksK k n).length = n := by simp [marksK]
theorem marksK_small (k n : Nat) : ∀ x ∈ marksK k n, x < 256 := by
  intro x hx
  simp only [marksK, List.mem_map] at hx
  obtain ⟨i, _, rfl⟩ := hx
  omega
theorem marksK_get (k n i : Nat) (h : i < n) : (marksK k n)[i]? = some ((k + i) % 256) := by simp [marksK, h]
def markedK (k : Nat) (xs : List Nat) (i : Nat) : List Nat := marksK k i ++ xs.drop i
theorem markedK_zero (k : Nat) (xs : List Nat) : markedK k xs 0 = xs := by simp [markedK, marksK]
theorem markedK_full (k : Nat) (xs : List Nat) : markedK k xs xs.length = marksK k xs.length := by simp [markedK]
theorem markedK_step (k : Nat) (xs : List Nat) (i : Nat) (h : i < xs.length) : (vb (markedK k xs i)).set i (.int .u8 (((k + i) % 256 : Nat) : Int)) = vb (markedK k xs (i + 1)) := by
  have : (markedK k xs i).set i ((k + i) % 256) = markedK k xs (i + 1) := by
    unfold markedK
    rw [List.set_append_right _ _ (by simp [marksK_length]), marksK_length, Nat.sub_self, List.drop_eq_getElem_cons h, List.set_cons_zero]
    rw [marksK, marksK, List.range_succ, List.map_append, List.append_assoc]
    rfl
  rw [← this]
  simp [vb, List.map_set]

def MarkedK (w : World) (base k : Nat) (A : Option Addr) (n c : Nat) (e : Ending) (w' : World) : Prop :=
  e = .returned (.int .i64 ((k + n : Nat) : Int)) ∧ w'.ownsRow base 5 1 (.slice A n c) n (vb (marksK k n)) ∧ w.grownBy w' (Value.slice A n c).ownBlock

set_option maxHeartbeats 400000 in
theorem markB_any (A : Option Addr) (n c base k : Nat) (xs : List Nat) (w : World) (ho : w.ownsRow base 5 1 (.slice A n c) n (vb xs)) (hn : n ≤ 2097152) (hk : k ≤ 8388608) :
    Calls Try.prog 38 #[.slice A n c, .int .i64 (k : Int)] w (MarkedK w base k A n c) := by
  have hl : xs.length = n := by have := ho.1; rw [vb_length] at this; omega
  rcases Nat.eq_zero_or_pos n with h0 | h0
  · subst h0
    obtain rfl : xs = [] := List.eq_nil_of_length_eq_zero hl
    have HO := Lib.hid ho
    clear ho hl
    go_enter Try.func38, Try.ntmps38
    go_wp2
    refine wp_loop_rounds 1 ?_
    rw [rounds_succ]
    go_wp2
    go_ret
    exact ⟨rfl, HO.out, World.grownBy.refl _ _⟩
  · obtain ⟨g, cap, hv, hbase, hlt⟩ := ho.form h0
    obtain ⟨rfl, -, rfl⟩ : A = some ⟨g, 0, none⟩ ∧ n = n ∧ c = cap := by injection hv with e1 e2 e3; exact ⟨e1, e2, e3⟩
    clear hv
    have HL := Lib.hid hl
    have ho0 : w.ownsRow base 5 1 (.slice (some ⟨g, 0, none⟩) n c) n (vb (markedK k xs 0)) := by rw [markedK_zero]; exact ho
    clear hl ho
    go_enter Try.func38, Try.ntmps38
    go_wp2
    go_loopw [1, 5] (fun t i wr => ∃ j : Nat, j ≤ n ∧ i = .int .i64 j ∧ t = .int .i64 ((k + j : Nat) : Int) ∧ wr.ownsRow base 5 1 (.slice (some ⟨g, 0, none⟩) n c) n (vb (markedK k xs j)) ∧ w.grownBy wr (some g)) (fun _ i _ => n - (intOf i).toNat)
    case atStart => exact ⟨0, Nat.zero_le _, rfl, rfl, ho0, World.grownBy.refl _ _⟩
    case round =>
      obtain ⟨j, hj, rfl, rfl, hown, hgr⟩ := hrel
      by_cases hlt2 : j < n
      · have hl2 : j < (vb (markedK k xs j)).length := by rw [hown.1]; omega
        have hcell2 : wr.cell? ⟨g, j, none⟩ = some (vb (markedK k xs j))[j] := by rw [hown.cellAt j (by omega), List.getElem?_eq_getElem hl2]
        have hfr := hown.frozenAt j
        have hst := hown.stored j (.int .u8 (((k + j) % 256 : Nat) : Int))
        rw [markedK_step k xs j (by rw [HL.out]; exact hlt2)] at hst
        have hst1 := Lib.hid hst.1
        have hg2 := grownBy_trans hgr hst.2
        generalize (vb (markedK k xs j))[j] = old at hcell2
        clear hst hown hl2
        go_wp2
        go_roundw
        case rel => exact ⟨j + 1, by omega, by go_num, by go_num, hst1.out, hg2⟩
        case measure => simp [intOf]; omega
      · obtain rfl : j = n := by omega
        go_wp2
        go_ret
        have e := HL.out
        subst e
        rw [markedK_full] at hown
        exact ⟨rfl, hown, hgr⟩

set_option maxHeartbeats 400000 in
theorem heldB_any (A : Option Addr) (n c k : Nat) (w : World) (hr : Rd w A n (marksK k n)) (hn : n ≤ 2097152) (hk : k ≤ 8388608) :
    Calls Try.prog 47 #[.slice A n c, .int .i64 (k : Int)] w fun e w' => e = .returned (.int .i64 ((k + n : Nat) : Int)) ∧ w = w' := by
  go_enter Try.func47, Try.ntmps47
  go_wp2
  go_loop [1, 5] (fun t i => ∃ j : Nat, j ≤ n ∧ i = .int .i64 j ∧ t = .int .i64 ((k + j : Nat) : Int)) (fun _ i => n - (intOf i).toNat)
  case atStart => exact ⟨0, Nat.zero_le _, rfl, rfl⟩
  case round =>
    obtain ⟨j, hj, rfl, rfl⟩ := hrel
    by_cases hlt : j < n
    · obtain ⟨b, off, x, rfl, hbw, hx, hxs, hc⟩ := hr.at_ hlt
      obtain rfl : (k + j) % 256 = x := by have := (marksK_get k n j hlt).symm.trans hxs.out; injection this
      go_wp2
      go_round
      case rel => exact ⟨j + 1, by omega, by go_num, by go_num⟩
      case measure => simp [intOf]; omega
    · obtain rfl : j = n := by omega
      go_wp2
      go_ret
      exact ⟨rfl, rfl⟩

/-! ### files -/
def markE (k : Nat) (e : Ent) : Ent := ⟨mt k, ⟨e.d.A, e.d.n, e.d.c, marksK (k + 1) e.d.n⟩⟩
def markEs : Nat → List Ent → List Ent
  | _, [] => []
  | k, e :: r => markE k e :: markEs (k + 1 + e.d.n) r
def endEs : Nat → List Ent → Nat
  | k, [] => k
  | k, e :: r => endEs (k + 1 + e.d.n) r
theorem markEs_append : ∀ (xs ys : List Ent) (k : Nat), markEs k (xs ++ ys) = markEs k xs ++ markEs (endEs k xs) ys
  | [], _, _ => rfl
  | x :: r, ys, k => by simp [markEs, endEs, markEs_append r ys]
theorem endEs_append : ∀ (xs ys : List Ent) (k : Nat), endEs k (xs ++ ys) = endEs (endEs k xs) ys
  | [], _, _ => rfl
  | x :: r, ys, k => by simp [endEs, endEs_append r ys]
theorem endEs_le : ∀ (xs : List Ent) (k : Nat), k ≤ endEs k xs
  | [], _ => Nat.le_refl _
  | x :: r, k => by
    have := endEs_le r (k + 1 + x.d.n)
    simp only [endEs]
    omega
theorem markEs_length : ∀ (xs : List Ent) (k : Nat), (markEs k xs).length = xs.length
  | [], _ => rfl
  | x :: r, k => by simp [markEs, markEs_length r]
theorem markEs_blocks : ∀ (xs : List Ent) (k : Nat), (markEs k xs).map (fun e => e.d.v) = xs.map (fun e => e.d.v)
  | [], _ => rfl
  | x :: r, k => by
    rw [markEs, List.map_cons, List.map_cons, markEs_blocks r]
    rfl

/-- Nothing old is written but in the blocks S. -/
structure Only (S : Nat → Prop) (w w' : World) : Prop where
  os : w'.os = w.os
  tape : w'.tape = w.tape
  output : w'.output = w.output
  size : w.heap.size ≤ w'.heap.size
  block : ∀ b, b < w.heap.size → ¬ S b → w'.heap[b]? = w.heap[b]?
theorem Only.refl (S : Nat → Prop) (w : World) : Only S w w := ⟨rfl, rfl, rfl, Nat.le_refl _, fun _ _ _ => rfl⟩
theorem Only.trans {S : Nat → Prop} {a b c : World} (h : Only S a b) (k : Only S b c) : Only S a c :=
  ⟨k.os.trans h.os, k.tape.trans h.tape, k.output.trans h.output, Nat.le_trans h.size k.size, fun i hi hn => (k.block i (Nat.lt_of_lt_of_le hi h.size) hn).trans (h.block i hi hn)⟩
theorem Only.grown {S : Nat → Prop} {a b c : World} {row : Option Nat} (h : Only S a b) (k : b.grownBy c row) (hr : ∀ i, row = some i → S i) : Only S a c :=
  h.trans ⟨k.os, k.tape, k.output, k.size, fun i hi hn => k.block i hi (fun e => hn (hr i e.symm))⟩
theorem Only.below {S : Nat → Prop} {a b c : World} (h : Only S a b) (k : Below b.heap.size b c) : Only S a c :=
  h.trans ⟨k.os, k.tape, k.output, k.size, fun i hi _ => k.block i hi⟩
theorem Only.mono {S T : Nat → Prop} {a b : World} (h : Only S a b) (hs : ∀ i, S i → T i) : Only T a b :=
  ⟨h.os, h.tape, h.output, h.size, fun i hi hn => h.block i hi (fun hh => hn (hs i hh))⟩
theorem Only.drewN {S : Nat → Prop} {a b : World} (h : Only S a b) (n : Nat) : Only S a (b.drewN n) := ⟨h.os, h.tape, h.output, h.size, h.block⟩

/-- Old memory up to B stays where only blocks from B on are written. -/
theorem Only.toBelow {S : Nat → Prop} {B : Nat} {w w' : World} (h : Only S w w') (hB : B ≤ w.heap.size) (hs : ∀ k, S k → B ≤ k) : Below B w w' :=
  ⟨h.os, h.tape, h.output, h.size, fun k hk => h.block k (by omega) (fun hh => by have := hs k hh; omega)⟩

def blkF (A : Option Addr) (es : List Ent) (b : Nat) : Prop := (∃ o s, A = some ⟨b, o, s⟩) ∨ ∃ e ∈ es, e.d.v.ownBlock = some b

theorem OwnB.turn {w w' : World} {lo : Nat} {l m : List Dat} {d : Dat} {ys : List Nat} (h : OwnB w lo (l ++ d :: m)) (hg : w.grownBy w' d.v.ownBlock) (ho : w'.ownsRow lo 5 1 (.slice d.A d.n d.c) d.n (vb ys)) (hs : ∀ y ∈ ys, y < 256) :
    OwnB w' lo (l ++ (⟨d.A, d.n, d.c, ys⟩ : Dat) :: m) := by
  obtain ⟨a1, a2, a3⟩ := List.pairwise_append.1 h.apart
  obtain ⟨b1, b2⟩ := List.pairwise_cons.1 a2
  have hl : ∀ e ∈ l, w'.ownsRow lo 5 1 e.v e.n (vb e.xs) := fun e he => (h.own e (List.mem_append_left _ he)).kept hg (a3 e he d (by simp))
  have hm : ∀ e ∈ m, w'.ownsRow lo 5 1 e.v e.n (vb e.xs) := fun e he => by
    refine (h.own e (List.mem_append_right _ (by simp [he]))).kept hg ?_
    rcases b1 e he with h1 | h1
    · rw [h1]
      cases e.v.ownBlock <;> simp
    · exact .inr (fun e2 => h1 e2.symm)
  refine ⟨fun e he => ?_, fun e he => ?_, List.pairwise_append.2 ⟨a1, List.pairwise_cons.2 ⟨fun e he => b1 e he, b2⟩, fun e he f hf => ?_⟩⟩
  · rcases List.mem_append.1 he with he | he
    · exact hl e he
    · rcases List.mem_cons.1 he with rfl | he
      · exact ho
      · exact hm e he
  · rcases List.mem_append.1 he with he | he
    · exact h.small e (List.mem_append_left _ he)
    · rcases List.mem_cons.1 he with rfl | he
      · exact hs
      · exact h.small e (List.mem_append_right _ (by simp [he]))
  · rcases List.mem_cons.1 hf with rfl | hf
    · exact a3 e he d (by simp)
    · exact a3 e he f (by simp [hf])

def MarkedFs (w : World) (lo k : Nat) (A : Option Addr) (n c : Nat) (es : List Ent) (e : Ending) (w' : World) : Prop :=
  e = .returned (.int .i64 (endEs k es : Int)) ∧ w'.ownsRow lo 97 2 (.slice A n c) n ((markEs k es).flatMap Ent.cells) ∧ OwnB w' lo ((markEs k es).map Ent.d) ∧ Only (blkF A es) w w'

theorem markText_any' (k : Nat) (w : World) (h0 : 0 < k) (hk : k ≤ 4194304) : Calls Try.prog 108 #[.int .i64 (k : Int)] w fun e w' => e = .returned (.string (mt k)) ∧ Below w.heap.size w w' := markText_any k w h0 hk

set_option maxRecDepth 10000 in
set_option maxHeartbeats 1000000 in
theorem markFs_any (A : Option Addr) (n c lo k : Nat) (es : List Ent) (w : World) (hr : w.ownsRow lo 97 2 (.slice A n c) n (es.flatMap Ent.cells)) (hd : OwnB w lo (es.map Ent.d)) (hl : es.length = n) (hn : n ≤ 2097152) (hs : ∀ e ∈ es, e.d.n ≤ 2097152) (hk0 : 0 < k) (hk : endEs k es ≤ 4194304) :
    Calls Try.prog 75 #[.slice A n c, .int .i64 (k : Int)] w (MarkedFs w lo k A n c es) := by
  have HS := Lib.hid hs
  have HL := Lib.hid hl
  have HK := Lib.hid hk
  clear hs hl hk
  go_enter Try.func75, Try.ntmps75
  go_wp2
  go_loopw [1, 5] (fun t i wr => ∃ (j q : Nat) (pre post : List Ent), j ≤ n ∧ i = .int .i64 j ∧ t = .int .i64 (q : Int) ∧ Hid (q = endEs k pre) ∧ 0 < q ∧ Hid (es = pre ++ post) ∧ Hid (pre.length = j) ∧ wr.ownsRow lo 97 2 (.slice A n c) n ((markEs k pre ++ post).flatMap Ent.cells) ∧ OwnB wr lo ((markEs k pre ++ post).map Ent.d) ∧ Only (blkF A es) w wr) (fun _ i _ => n - (intOf i).toNat)
  case atStart => exact ⟨0, k, [], es, Nat.zero_le _, rfl, rfl, Lib.hid rfl, hk0, Lib.hid rfl, Lib.hid rfl, hr, hd, Only.refl _ _⟩
  case round =>
    obtain ⟨j, q, pre, post, hj, rfl, rfl, hq, hq0, hes, hpl, hown, hdat, honly⟩ := hrel
    by_cases hlt : j < n
    · obtain ⟨e, post, rfl⟩ : ∃ e r, post = e :: r := by
        cases post with
        | nil => exfalso; have := congrArg List.length hes.out; have := HL.out; have := hpl.out; simp at *; omega
        | cons e r => exact ⟨e, r, rfl⟩
      obtain ⟨g, cap, hv, hbase, hgl⟩ := hown.form (by omega)
      obtain ⟨rfl, -, rfl⟩ : A = some ⟨g, 0, none⟩ ∧ n = n ∧ c = cap := by injection hv with e1 e2 e3; exact ⟨e1, e2, e3⟩
      clear hv
      have hq2 : q + 1 + e.d.n ≤ 4194304 := by
        have h1 := HK.out
        rw [hes.out, endEs_append, endEs, ← hq.out] at h1
        have := endEs_le post (q + 1 + e.d.n)
        omega
      have hen : e.d.n ≤ 2097152 := HS.out e (by rw [hes.out]; simp)
      have C := Lib.hid (markText_any' q wr hq0 (by omega))
      have HO := Lib.hid hown
      have HD := Lib.hid hdat
      have HY := Lib.hid honly
      have hml : (markEs k pre).length = j := by rw [markEs_length, hpl.out]
      have HML := Lib.hid hml
      clear hown hdat honly hml
      go_wp2_with fail
      refine C.out.mono ?_
      rintro e1 w1 ⟨rfl, hb1⟩
      have hown1 := own_below HO.out hb1
      have hget : (markEs k pre ++ e :: post)[j]? = some e := by simp [HML.out]
      have hc0 : w1.cell? ⟨g, j * 2, none⟩ = some (.string e.nm) := by
        rw [hown1.cellAt (j * 2) (by omega)]
        exact flat_get Ent.cells 2 Ent.cells_len _ j 0 e hget (by omega)
      have hc1 : w1.cell? ⟨g, j * 2 + 1, none⟩ = some (.slice e.d.A e.d.n e.d.c) := by
        rw [hown1.cellAt (j * 2 + 1) (by omega)]
        exact flat_get Ent.cells 2 Ent.cells_len _ j 1 e hget (by omega)
      have hf0 := hown1.frozenAt (j * 2)
      have hst := hown1.stored (j * 2) (.string (mt q))
      have e2 := flat_set Ent.cells 2 Ent.cells_len (markEs k pre ++ e :: post) j 0 e ⟨mt q, e.d⟩ (.string (mt q)) hget (by omega) rfl
      rw [Nat.add_zero] at e2
      have e3 : (markEs k pre ++ e :: post).set j ⟨mt q, e.d⟩ = markEs k pre ++ ⟨mt q, e.d⟩ :: post := by
        rw [List.set_append_right _ _ (by rw [HML.out]; exact Nat.le_refl _), HML.out, Nat.sub_self]
        rfl
      rw [e2, e3] at hst
      obtain ⟨cur, hg0⟩ := own_block hown1
      have hd1 := HD.out.below hb1
      have hd2 := hd1.kept hst.2 (hd1.far hg0 (by decide))
      have HD2 := Lib.hid hd2
      have HST := Lib.hid hst
      have HB1 := Lib.hid hb1
      obtain ⟨cur2, hg02⟩ := own_block hst.1
      have HG := Lib.hid hg02
      have hmapd : (markEs k pre ++ e :: post).map Ent.d = (markEs k pre).map Ent.d ++ e.d :: post.map Ent.d := by simp
      rw [hmapd] at HD2
      have M := Lib.hid (markB_any e.d.A e.d.n e.d.c lo (q + 1) e.d.xs _ (HD2.out.own e.d (by simp)) hen (by omega))
      have eq1 : ((q + 1 : Nat) : Int) = (q : Int) + 1 := by omega
      rw [eq1] at M
      clear hown1 hst hd1 hd2 hb1 e2 e3 hget hg0 hg02 hmapd eq1
      go_wp2_with fail
      refine M.out.mono ?_
      rintro e1 w2 ⟨rfl, ho2, hg2⟩
      go_wp2
      go_roundw
      case rel =>
        have hen2 : markEs k (pre ++ [e]) = markEs k pre ++ [markE q e] := by rw [markEs_append, ← hq.out]; rfl
        refine ⟨j + 1, q + 1 + e.d.n, pre ++ [e], post, by omega, by go_num, rfl, Lib.hid ?_, by omega, Lib.hid ?_, Lib.hid (by simp [hpl.out]), ?_, ?_, ?_⟩
        · rw [endEs_append, ← hq.out]; rfl
        · rw [hes.out]; simp
        · have hcs : (markEs k (pre ++ [e]) ++ post).flatMap Ent.cells = (markEs k pre ++ ⟨mt q, e.d⟩ :: post).flatMap Ent.cells := by
            rw [hen2, List.append_assoc, List.flatMap_append, List.flatMap_append, List.flatMap_append, List.flatMap_cons]
            rfl
          rw [hcs]
          refine HST.out.1.kept hg2 (.inr (fun e4 => ?_))
          rcases HD2.out.far (HG.out) (by decide) e.d (by simp) with h5 | h5
          · rw [show (Value.slice e.d.A e.d.n e.d.c).ownBlock = none from h5] at e4
            cases e4
          · exact h5 e4.symm
        · rw [hen2, List.append_assoc, List.map_append]
          exact HD2.out.turn hg2 ho2 (marksK_small _ _)
        · refine ((HY.out.below HB1.out).grown HST.out.2 (fun i hi => ?_)).grown hg2 (fun i hi => ?_)
          · injection hi with hi
            subst hi
            exact .inl ⟨0, none, rfl⟩
          · exact .inr ⟨e, by rw [hes.out]; simp, hi⟩
      case measure => simp [intOf]; omega
    · obtain rfl : j = n := by omega
      have hpe : post = [] := by
        have h1 := congrArg List.length hes.out
        have h2 := HL.out
        have h3 := hpl.out
        rw [List.length_append] at h1
        exact List.eq_nil_of_length_eq_zero (by omega)
      subst hpe
      go_wp2
      go_ret
      have e1 := hes.out
      rw [List.append_nil] at e1 hown hdat
      subst e1
      exact ⟨ret_int (by rw [hq.out]), hown, hdat, honly⟩
end Go.Proofs.Ytdeijiochianpaa
