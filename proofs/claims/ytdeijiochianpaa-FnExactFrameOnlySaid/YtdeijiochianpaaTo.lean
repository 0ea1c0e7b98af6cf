/- The contracts of the laws' helpers that copy arguments into new memory. Condition: at most 2^21 of each. -/
import Derived.Test.YtdeijiochianpaaEntOwn
import Derived.Test.YtdeijiochianpaaCopy
namespace Go.Proofs.Ytdeijiochianpaa
open Go.RowKit

theorem Try.infoFile : (Try.prog.info? 97).map (fun i => (i.zero, i.size, i.bytes)) = some (some (.agg #[.string ByteArray.empty, .slice none 0 0]), 2, 40) := by kernel_rfl
theorem Try.infoOp : (Try.prog.info? 30).map (fun i => (i.zero, i.size, i.bytes)) = some (some (.agg #[.int .i64 0, .string ByteArray.empty, .string ByteArray.empty, .slice none 0 0]), 4, 64) := by kernel_rfl

/-- A new file. -/
def MadeFile (w : World) (s : ByteArray) (xs : List Nat) (e : Ending) (w' : World) : Prop :=
  ∃ A c, e = .returned (.agg #[.string s, .slice A xs.length c]) ∧ w'.ownsRow w.heap.size 5 1 (.slice A xs.length c) xs.length (vb xs) ∧ Below w.heap.size w w'
def MadeOp (w : World) (kind : Int) (s t : ByteArray) (xs : List Nat) (e : Ending) (w' : World) : Prop :=
  ∃ A c, e = .returned (.agg #[.int .i64 kind, .string s, .string t, .slice A xs.length c]) ∧ w'.ownsRow w.heap.size 5 1 (.slice A xs.length c) xs.length (vb xs) ∧ Below w.heap.size w w'

set_option maxHeartbeats 400000 in
theorem toFile_any (s : ByteArray) (d : Dat) (w : World) (hr : d.Ok w) (hn : d.n ≤ 2097152) :
    Calls Try.prog 106 #[.agg #[.string s, .slice d.A d.n d.c]] w (MadeFile w s d.xs) := by
  have C := Lib.hid (fun w' (hb : Below w.heap.size w w') => copy_any d.A d.n d.c d.xs w' (hr.rd.below hb) hn)
  have HL := Lib.hid hr.rd.len
  clear hr
  go_enter Try.func106, Try.ntmps106
  go_wp2_with fail
  refine (C.out _ ?_).mono ?_
  · exact below_a3 _ _ _ _
  · rintro e w1 ⟨A1, c1, rfl, ho1, hb1⟩
    obtain ⟨hc, hf⟩ := bcell hb1
    have hz : w.heap.size + 1 + 1 < w1.heap.size := by have := hb1.size; simp at this; omega
    have HB := Lib.hid hb1
    clear hb1
    go_wp2
    refine bodyPost_ret (v := .agg #[.string s, .slice A1 d.n c1]) (by simp [results, Try.results106, go_sem, hc]) rfl ⟨A1, c1, by rw [HL.out], ?_, ?_⟩
    · rw [HL.out]
      exact own_mono (own_set_low (own_set_low (own_set_low ho1 (by simp) _) (by simp) _) (by simp) _) (by simp; omega)
    · exact ((((below_a3 _ _ _ _).trans (HB.out.mono (by simp; omega))).setCell (by simp; omega) _).setCell (by simp) _).setCell (by simp) _

set_option maxHeartbeats 400000 in
theorem toOp_any (kind : Int) (s t : ByteArray) (d : Dat) (w : World) (hr : d.Ok w) (hn : d.n ≤ 2097152) :
    Calls Try.prog 23 #[.agg #[.int .i64 kind, .string s, .string t, .slice d.A d.n d.c]] w (MadeOp w kind s t d.xs) := by
  have C := Lib.hid (fun w' (hb : Below w.heap.size w w') => copy_any d.A d.n d.c d.xs w' (hr.rd.below hb) hn)
  have HL := Lib.hid hr.rd.len
  clear hr
  go_enter Try.func23, Try.ntmps23
  go_wp2_with fail
  refine (C.out _ ?_).mono ?_
  · exact below_a3 _ _ _ _
  · rintro e w1 ⟨A1, c1, rfl, ho1, hb1⟩
    obtain ⟨hc, hf⟩ := bcell hb1
    have hz : w.heap.size + 1 + 1 < w1.heap.size := by have := hb1.size; simp at this; omega
    have HB := Lib.hid hb1
    clear hb1
    go_wp2
    refine bodyPost_ret (v := .agg #[.int .i64 kind, .string s, .string t, .slice A1 d.n c1]) (by simp [results, Try.results23, go_sem, hc]) rfl ⟨A1, c1, by rw [HL.out], ?_, ?_⟩
    · rw [HL.out]
      exact own_mono (own_set_low (own_set_low (own_set_low (own_set_low (own_set_low ho1 (by simp) _) (by simp) _) (by simp) _) (by simp) _) (by simp) _) (by simp; omega)
    · exact ((((((below_a3 _ _ _ _).trans (HB.out.mono (by simp; omega))).setCell (by simp; omega) _).setCell (by simp) _).setCell (by simp) _).setCell (by simp) _).setCell (by simp) _

/-- Nothing yet. -/
def zeroE : Ent := ⟨⟨#[]⟩, ⟨none, 0, 0, []⟩⟩
def zeroO : OpE := ⟨0, ⟨#[]⟩, ⟨#[]⟩, ⟨none, 0, 0, []⟩⟩
theorem made_rep {α : Type} (f : α → List Value) (z : α) (k : Nat) (hf : ∀ a, (f a).length = k) (hk : 0 < k) (cs : Array Value) (h : cs.toList = f z) (n : Nat) : (madeCells cs (n * k)).toList = (List.replicate n z).flatMap f := by
  have hs : cs.size = k := by rw [← Array.length_toList, h, hf]
  apply List.ext_getElem?
  intro i
  by_cases hi : i < n * k
  · have hj : i / k < n := Nat.div_lt_of_lt_mul (by rw [Nat.mul_comm]; exact hi)
    have hr : i % k < k := Nat.mod_lt _ hk
    have e := flat_get f k hf (List.replicate n z) (i / k) (i % k) z (by simp [hj]) hr
    rw [show i / k * k + i % k = i by rw [Nat.mul_comm]; exact Nat.div_add_mod i k] at e
    rw [e]
    simp only [madeCells, Array.toList_map, Array.toList_range, List.getElem?_map, List.getElem?_range hi, Option.map_some, hs]
    rw [← h, Array.getElem?_toList, getElem!_pos cs (i % k) (by omega), Array.getElem?_eq_getElem (by omega)]
  · rw [List.getElem?_eq_none (by simp [madeCells]; omega), List.getElem?_eq_none (by rw [flat_len f k hf]; simp; omega)]

/-- New files. -/
def MadeFs (w : World) (fs : List (ByteArray × List Nat)) (e : Ending) (w' : World) : Prop :=
  ∃ A c es, e = .returned (.slice A es.length c) ∧ es.map Ent.file = fs ∧ OwnF w' w.heap.size A c es ∧ Below w.heap.size w w'
def MadeOs (w : World) (fs : List (Int × ByteArray × ByteArray × List Nat)) (e : Ending) (w' : World) : Prop :=
  ∃ A c os, e = .returned (.slice A os.length c) ∧ os.map OpE.op = fs ∧ OwnO w' w.heap.size A c os ∧ Below w.heap.size w w'

theorem take_step {α : Type} (es : List α) (k : Nat) (e : α) (h : es[k]? = some e) : es.take (k + 1) = es.take k ++ [e] := by
  obtain ⟨hk, rfl⟩ := List.getElem?_eq_some_iff.1 h
  exact List.take_succ_eq_append_getElem hk
theorem own_block {w : World} {lo e size g n c m : Nat} {xs : List Value} (h : w.ownsRow lo e size (.slice (some ⟨g, 0, none⟩) n c) m xs) : ∃ cur, w.heap[g]? = some (.cells cur e (0, 0)) := by
  rcases h.2 with ⟨h2, _⟩ | ⟨g', cap, cur, e, _, hg, _⟩
  · cases h2
  · injection e with e1 _ _
    injection e1 with e1
    injection e1 with e1
    subst e1
    exact ⟨cur, hg⟩

/-- One more is made: what is laid at place k of a row that is nothing from k on. -/
theorem lay_at {α : Type} (made : List α) (z x : α) (n k : Nat) (hm : made.length = k) (hk : k < n) : (made ++ List.replicate (n - k) z).set k x = (made ++ [x]) ++ List.replicate (n - (k + 1)) z := by
  rw [List.set_append_right _ _ (by omega), hm, Nat.sub_self, show n - k = (n - (k + 1)) + 1 by omega, List.replicate_succ, List.set_cons_zero, List.append_assoc]
  rfl
theorem get_at {α : Type} (made : List α) (z : α) (n k : Nat) (hm : made.length = k) (hk : k < n) : (made ++ List.replicate (n - k) z)[k]? = some z := by
  rw [List.getElem?_append_right (by omega), hm, Nat.sub_self, show n - k = (n - (k + 1)) + 1 by omega, List.replicate_succ]
  rfl

/-- Two cells of one record stored. -/
theorem ownF_lay {w : World} {lo g c n k : Nat} {made : List Ent} {e : Ent} (h : w.ownsRow lo 97 2 (.slice (some ⟨g, 0, none⟩) n c) n ((made ++ List.replicate (n - k) zeroE).flatMap Ent.cells)) (hm : made.length = k) (hk : k < n) :
    ((w.setCell ⟨g, k * 2, none⟩ (.string e.nm)).setCell ⟨g, k * 2 + 1, none⟩ (.slice e.d.A e.d.n e.d.c)).ownsRow lo 97 2 (.slice (some ⟨g, 0, none⟩) n c) n (((made ++ [e]) ++ List.replicate (n - (k + 1)) zeroE).flatMap Ent.cells) ∧
      w.grownBy ((w.setCell ⟨g, k * 2, none⟩ (.string e.nm)).setCell ⟨g, k * 2 + 1, none⟩ (.slice e.d.A e.d.n e.d.c)) (some g) := by
  have h1 := h.stored (k * 2) (.string e.nm)
  have h2 := h1.1.stored (k * 2 + 1) (.slice e.d.A e.d.n e.d.c)
  have e1 := flat_set Ent.cells 2 Ent.cells_len (made ++ List.replicate (n - k) zeroE) k 0 zeroE ⟨e.nm, zeroE.d⟩ (.string e.nm) (get_at made zeroE n k hm hk) (by omega) rfl
  rw [Nat.add_zero, lay_at made zeroE _ n k hm hk] at e1
  have e2 := flat_set Ent.cells 2 Ent.cells_len (made ++ [⟨e.nm, zeroE.d⟩] ++ List.replicate (n - (k + 1)) zeroE) k 1 ⟨e.nm, zeroE.d⟩ e (.slice e.d.A e.d.n e.d.c) (by simp [hm]) (by omega) rfl
  have e3 : (made ++ [(⟨e.nm, zeroE.d⟩ : Ent)] ++ List.replicate (n - (k + 1)) zeroE).set k e = made ++ [e] ++ List.replicate (n - (k + 1)) zeroE := by
    rw [List.append_assoc, List.set_append_right _ _ (by omega), hm, Nat.sub_self, List.append_assoc]
    rfl
  rw [e3] at e2
  rw [e1, e2] at h2
  exact ⟨h2.1, h1.2.trans h2.2⟩

set_option maxRecDepth 10000 in
set_option maxHeartbeats 1000000 in
theorem toFiles_any (A : Option Addr) (n c : Nat) (es : List Ent) (w : World) (hr : SlF w A n es) (hn : n ≤ 2097152) (hs : ∀ e ∈ es, e.d.n ≤ 2097152) :
    Calls Try.prog 71 #[.slice A n c] w (MadeFs w (es.map Ent.file)) := by
  obtain ⟨i0, hi, hz0, hz1, hz2⟩ := info_parts Try.infoFile
  have HR := Lib.hid hr
  have HS := Lib.hid hs
  clear hr hs
  go_enter Try.func71, Try.ntmps71
  go_wp2_with (refine wpList_make_full _ rfl (.tmp 6) (.tmp 6) 23 rfl w.heap.size 97 i0 (.agg #[.string ByteArray.empty, .slice none 0 0]) 2 Try.underlying23 hi hz0 hz1 .i64 .i64 _ _ n rfl rfl rfl rfl (by rw [hz2]; omega) (by unfold maxLen; omega) (Nat.le_refl _) ?_; intro w1 hown hg)
  have hb1 : Below w.heap.size w w1 := (Below.refl _ _).grown hg (Nat.le_refl _) (by simp)
  have hown1 : w1.ownsRow w.heap.size 97 2 (.slice (some ⟨w.heap.size, 0, none⟩) n n) n (([] ++ List.replicate (n - 0) zeroE).flatMap Ent.cells) := by
    have h := hown
    rw [made_rep Ent.cells zeroE 2 Ent.cells_len (by omega) (Value.agg #[.string ByteArray.empty, .slice none 0 0]).cells rfl n] at h
    simpa using h
  clear hown hg
  go_loopw [4] (fun i wr => ∃ (k : Nat) (made : List Ent), k ≤ n ∧ i = .int .i64 k ∧ Hid (made.length = k) ∧ Hid (made.map Ent.file = (es.take k).map Ent.file) ∧ wr.ownsRow w.heap.size 97 2 (.slice (some ⟨w.heap.size, 0, none⟩) n n) n ((made ++ List.replicate (n - k) zeroE).flatMap Ent.cells) ∧ OwnB wr w.heap.size (made.map Ent.d) ∧ Below w.heap.size w wr) (fun i _ => n - (intOf i).toNat)
  case atStart => exact ⟨0, [], Nat.zero_le _, rfl, Lib.hid rfl, Lib.hid (by simp), hown1, OwnB.nil, hb1⟩
  case round =>
    obtain ⟨k, made, hk, rfl, hm, hf, hown, hdat, hbel⟩ := hrel
    by_cases hlt : k < n
    · obtain ⟨b, off, e, rfl, hbw, he, hok, c0, c1⟩ := HR.out.at_ hlt
      have c0 := (hbel.cell (p := ⟨b, off + k * 2, none⟩) hbw).trans c0
      have c1 := (hbel.cell (p := ⟨b, off + k * 2 + 1, none⟩) hbw).trans c1
      have HC := Lib.hid (toFile_any e.nm e.d wr (hok.out.below hbel) (HS.out e (List.mem_of_getElem? he.out)))
      have HO := Lib.hid hown
      have HB := Lib.hid hbel
      have HD := Lib.hid hdat
      clear hown hdat hbel
      go_wp2_with fail
      refine HC.out.mono ?_
      rintro e1 w2 ⟨A2, c2, rfl, ho2, hb2⟩
      have hown2 := own_below HO.out hb2
      have hc0 : w2.cell? ⟨w.heap.size, k * 2, none⟩ = some (.string ⟨#[]⟩) := by
        rw [hown2.cellAt (k * 2) (by omega)]
        exact flat_get Ent.cells 2 Ent.cells_len _ k 0 zeroE (get_at made zeroE n k hm.out hlt) (by omega)
      have hc1 : w2.cell? ⟨w.heap.size, k * 2 + 1, none⟩ = some (.slice none 0 0) := by
        rw [hown2.cellAt (k * 2 + 1) (by omega)]
        exact flat_get Ent.cells 2 Ent.cells_len _ k 1 zeroE (get_at made zeroE n k hm.out hlt) (by omega)
      have hf0 := hown2.frozenAt (k * 2)
      have hf1 := hown2.frozenAt (k * 2 + 1)
      have HL := Lib.hid (ownF_lay (e := ⟨e.nm, ⟨A2, e.d.xs.length, c2, e.d.xs⟩⟩) hown2 hm.out hlt)
      obtain ⟨cur, hg0⟩ := own_block hown2
      have HG := Lib.hid hg0
      have HO2 := Lib.hid ho2
      have HB2 := Lib.hid hb2
      clear hown2 ho2 hb2 hg0
      go_wp2
      go_roundw
      case rel =>
        refine ⟨k + 1, made ++ [⟨e.nm, ⟨A2, e.d.xs.length, c2, e.d.xs⟩⟩], by omega, by go_num, Lib.hid (by simp [hm.out]), Lib.hid ?_, HL.out.1, ?_, ?_⟩
        · rw [List.map_append, hf.out, take_step es k e he.out, List.map_append]
          rfl
        · rw [List.map_append]
          have hd2 : OwnB w2 w.heap.size (made.map Ent.d) := HD.out.below HB2.out
          have hall := hd2.append (OwnB.one (d := ⟨A2, e.d.xs.length, c2, e.d.xs⟩) (own_mono HO2.out HB.out.size) hok.out.rd.small) (apart_of_time HD.out (Nat.le_refl _) (OwnB.one (d := ⟨A2, e.d.xs.length, c2, e.d.xs⟩) HO2.out hok.out.rd.small) (Nat.le_refl _))
          exact hall.kept HL.out.2 (hall.far (HG.out) (by decide))
        · exact ((HB.out.trans (HB2.out.mono HB.out.size)).setCell (Nat.le_refl _) _).setCell (Nat.le_refl _) _
      case measure => simp [intOf]; omega
    · obtain rfl : k = n := by omega
      go_wp2
      go_ret
      refine ⟨some ⟨w.heap.size, 0, none⟩, made.length, made, ?_, ?_, ⟨?_, hdat⟩, hbel⟩
      · rw [hm.out]; rfl
      · rw [hf.out, ← HR.out.len, List.take_length]
      · rw [hm.out]; simpa using hown

theorem set_mid {α : Type} (made rest : List α) (x y : α) (k : Nat) (hm : made.length = k) : (made ++ [x] ++ rest).set k y = made ++ [y] ++ rest := by
  rw [List.append_assoc, List.set_append_right _ _ (by omega), hm, Nat.sub_self, List.append_assoc]
  rfl
theorem get_mid {α : Type} (made rest : List α) (x : α) (k : Nat) (hm : made.length = k) : (made ++ [x] ++ rest)[k]? = some x := by
  simp [hm]

/-- Four cells of one record stored. -/
theorem ownO_lay {w : World} {lo g c n k : Nat} {made : List OpE} {e : OpE} (h : w.ownsRow lo 30 4 (.slice (some ⟨g, 0, none⟩) n c) n ((made ++ List.replicate (n - k) zeroO).flatMap OpE.cells)) (hm : made.length = k) (hk : k < n) :
    ((((w.setCell ⟨g, k * 4, none⟩ (.int .i64 e.kind)).setCell ⟨g, k * 4 + 1, none⟩ (.string e.nm)).setCell ⟨g, k * 4 + 2, none⟩ (.string e.to)).setCell ⟨g, k * 4 + 3, none⟩ (.slice e.d.A e.d.n e.d.c)).ownsRow lo 30 4 (.slice (some ⟨g, 0, none⟩) n c) n (((made ++ [e]) ++ List.replicate (n - (k + 1)) zeroO).flatMap OpE.cells) ∧
      w.grownBy ((((w.setCell ⟨g, k * 4, none⟩ (.int .i64 e.kind)).setCell ⟨g, k * 4 + 1, none⟩ (.string e.nm)).setCell ⟨g, k * 4 + 2, none⟩ (.string e.to)).setCell ⟨g, k * 4 + 3, none⟩ (.slice e.d.A e.d.n e.d.c)) (some g) := by
  have h1 := h.stored (k * 4) (.int .i64 e.kind)
  have h2 := h1.1.stored (k * 4 + 1) (.string e.nm)
  have h3 := h2.1.stored (k * 4 + 2) (.string e.to)
  have h4 := h3.1.stored (k * 4 + 3) (.slice e.d.A e.d.n e.d.c)
  have e1 := flat_set OpE.cells 4 OpE.cells_len (made ++ List.replicate (n - k) zeroO) k 0 zeroO ⟨e.kind, zeroO.nm, zeroO.to, zeroO.d⟩ (.int .i64 e.kind) (get_at made zeroO n k hm hk) (by omega) rfl
  rw [Nat.add_zero, lay_at made zeroO _ n k hm hk] at e1
  have e2 := flat_set OpE.cells 4 OpE.cells_len (made ++ [⟨e.kind, zeroO.nm, zeroO.to, zeroO.d⟩] ++ List.replicate (n - (k + 1)) zeroO) k 1 ⟨e.kind, zeroO.nm, zeroO.to, zeroO.d⟩ ⟨e.kind, e.nm, zeroO.to, zeroO.d⟩ (.string e.nm) (get_mid _ _ _ _ hm) (by omega) rfl
  rw [set_mid _ _ _ _ _ hm] at e2
  have e3 := flat_set OpE.cells 4 OpE.cells_len (made ++ [⟨e.kind, e.nm, zeroO.to, zeroO.d⟩] ++ List.replicate (n - (k + 1)) zeroO) k 2 ⟨e.kind, e.nm, zeroO.to, zeroO.d⟩ ⟨e.kind, e.nm, e.to, zeroO.d⟩ (.string e.to) (get_mid _ _ _ _ hm) (by omega) rfl
  rw [set_mid _ _ _ _ _ hm] at e3
  have e4 := flat_set OpE.cells 4 OpE.cells_len (made ++ [⟨e.kind, e.nm, e.to, zeroO.d⟩] ++ List.replicate (n - (k + 1)) zeroO) k 3 ⟨e.kind, e.nm, e.to, zeroO.d⟩ e (.slice e.d.A e.d.n e.d.c) (get_mid _ _ _ _ hm) (by omega) rfl
  rw [set_mid _ _ _ _ _ hm] at e4
  rw [e1, e2, e3, e4] at h4
  exact ⟨h4.1, ((h1.2.trans h2.2).trans h3.2).trans h4.2⟩

set_option maxRecDepth 10000 in
set_option maxHeartbeats 1000000 in
theorem toOps_any (A : Option Addr) (n c : Nat) (es : List OpE) (w : World) (hr : SlO w A n es) (hn : n ≤ 2097152) (hs : ∀ e ∈ es, e.d.n ≤ 2097152) :
    Calls Try.prog 72 #[.slice A n c] w (MadeOs w (es.map OpE.op)) := by
  obtain ⟨i0, hi, hz0, hz1, hz2⟩ := info_parts Try.infoOp
  have HR := Lib.hid hr
  have HS := Lib.hid hs
  clear hr hs
  go_enter Try.func72, Try.ntmps72
  go_wp2_with (refine wpList_make_full _ rfl (.tmp 6) (.tmp 6) 24 rfl w.heap.size 30 i0 (.agg #[.int .i64 0, .string ByteArray.empty, .string ByteArray.empty, .slice none 0 0]) 4 Try.underlying24 hi hz0 hz1 .i64 .i64 _ _ n rfl rfl rfl rfl (by rw [hz2]; omega) (by unfold maxLen; omega) (Nat.le_refl _) ?_; intro w1 hown hg)
  have hb1 : Below w.heap.size w w1 := (Below.refl _ _).grown hg (Nat.le_refl _) (by simp)
  have hown1 : w1.ownsRow w.heap.size 30 4 (.slice (some ⟨w.heap.size, 0, none⟩) n n) n (([] ++ List.replicate (n - 0) zeroO).flatMap OpE.cells) := by
    have h := hown
    rw [made_rep OpE.cells zeroO 4 OpE.cells_len (by omega) (Value.agg #[.int .i64 0, .string ByteArray.empty, .string ByteArray.empty, .slice none 0 0]).cells rfl n] at h
    simpa using h
  clear hown hg
  go_loopw [4] (fun i wr => ∃ (k : Nat) (made : List OpE), k ≤ n ∧ i = .int .i64 k ∧ Hid (made.length = k) ∧ Hid (made.map OpE.op = (es.take k).map OpE.op) ∧ wr.ownsRow w.heap.size 30 4 (.slice (some ⟨w.heap.size, 0, none⟩) n n) n ((made ++ List.replicate (n - k) zeroO).flatMap OpE.cells) ∧ OwnB wr w.heap.size (made.map OpE.d) ∧ Below w.heap.size w wr) (fun i _ => n - (intOf i).toNat)
  case atStart => exact ⟨0, [], Nat.zero_le _, rfl, Lib.hid rfl, Lib.hid (by simp), hown1, OwnB.nil, hb1⟩
  case round =>
    obtain ⟨k, made, hk, rfl, hm, hf, hown, hdat, hbel⟩ := hrel
    by_cases hlt : k < n
    · obtain ⟨b, off, e, rfl, hbw, he, hok, c0, c1, c2, c3⟩ := HR.out.at_ hlt
      have c0 := (hbel.cell (p := ⟨b, off + k * 4, none⟩) hbw).trans c0
      have c1 := (hbel.cell (p := ⟨b, off + k * 4 + 1, none⟩) hbw).trans c1
      have c2 := (hbel.cell (p := ⟨b, off + k * 4 + 2, none⟩) hbw).trans c2
      have c3 := (hbel.cell (p := ⟨b, off + k * 4 + 3, none⟩) hbw).trans c3
      have HC := Lib.hid (toOp_any e.kind e.nm e.to e.d wr (hok.out.below hbel) (HS.out e (List.mem_of_getElem? he.out)))
      have HO := Lib.hid hown
      have HB := Lib.hid hbel
      have HD := Lib.hid hdat
      clear hown hdat hbel
      go_wp2_with fail
      refine HC.out.mono ?_
      rintro e1 w2 ⟨A2, c4, rfl, ho2, hb2⟩
      have hown2 := own_below HO.out hb2
      have hc0 : w2.cell? ⟨w.heap.size, k * 4, none⟩ = some (.int .i64 0) := by
        rw [hown2.cellAt (k * 4) (by omega)]
        exact flat_get OpE.cells 4 OpE.cells_len _ k 0 zeroO (get_at made zeroO n k hm.out hlt) (by omega)
      have hc1 : w2.cell? ⟨w.heap.size, k * 4 + 1, none⟩ = some (.string ⟨#[]⟩) := by
        rw [hown2.cellAt (k * 4 + 1) (by omega)]
        exact flat_get OpE.cells 4 OpE.cells_len _ k 1 zeroO (get_at made zeroO n k hm.out hlt) (by omega)
      have hc2 : w2.cell? ⟨w.heap.size, k * 4 + 2, none⟩ = some (.string ⟨#[]⟩) := by
        rw [hown2.cellAt (k * 4 + 2) (by omega)]
        exact flat_get OpE.cells 4 OpE.cells_len _ k 2 zeroO (get_at made zeroO n k hm.out hlt) (by omega)
      have hc3 : w2.cell? ⟨w.heap.size, k * 4 + 3, none⟩ = some (.slice none 0 0) := by
        rw [hown2.cellAt (k * 4 + 3) (by omega)]
        exact flat_get OpE.cells 4 OpE.cells_len _ k 3 zeroO (get_at made zeroO n k hm.out hlt) (by omega)
      have hf0 := hown2.frozenAt (k * 4)
      have hf1 := hown2.frozenAt (k * 4 + 1)
      have hf2 := hown2.frozenAt (k * 4 + 2)
      have hf3 := hown2.frozenAt (k * 4 + 3)
      have HL := Lib.hid (ownO_lay (e := ⟨e.kind, e.nm, e.to, ⟨A2, e.d.xs.length, c4, e.d.xs⟩⟩) hown2 hm.out hlt)
      obtain ⟨cur, hg0⟩ := own_block hown2
      have HG := Lib.hid hg0
      have HO2 := Lib.hid ho2
      have HB2 := Lib.hid hb2
      clear hown2 ho2 hb2 hg0
      go_wp2
      go_roundw
      case rel =>
        refine ⟨k + 1, made ++ [⟨e.kind, e.nm, e.to, ⟨A2, e.d.xs.length, c4, e.d.xs⟩⟩], by omega, by go_num, Lib.hid (by simp [hm.out]), Lib.hid ?_, HL.out.1, ?_, ?_⟩
        · rw [List.map_append, hf.out, take_step es k e he.out, List.map_append]
          rfl
        · rw [List.map_append]
          have hd2 : OwnB w2 w.heap.size (made.map OpE.d) := HD.out.below HB2.out
          have hall := hd2.append (OwnB.one (d := ⟨A2, e.d.xs.length, c4, e.d.xs⟩) (own_mono HO2.out HB.out.size) hok.out.rd.small) (apart_of_time HD.out (Nat.le_refl _) (OwnB.one (d := ⟨A2, e.d.xs.length, c4, e.d.xs⟩) HO2.out hok.out.rd.small) (Nat.le_refl _))
          exact hall.kept HL.out.2 (hall.far (HG.out) (by decide))
        · exact ((((HB.out.trans (HB2.out.mono HB.out.size)).setCell (Nat.le_refl _) _).setCell (Nat.le_refl _) _).setCell (Nat.le_refl _) _).setCell (Nat.le_refl _) _
      case measure => simp [intOf]; omega
    · obtain rfl : k = n := by omega
      go_wp2
      go_ret
      refine ⟨some ⟨w.heap.size, 0, none⟩, made.length, made, ?_, ?_, ⟨?_, hdat⟩, hbel⟩
      · rw [hm.out]; rfl
      · rw [hf.out, ← HR.out.len, List.take_length]
      · rw [hm.out]; simpa using hown

/-- A new disk. -/
def MadeD (w : World) (room fuse : Int) (fs : List (ByteArray × List Nat)) (ops : List (Int × ByteArray × ByteArray × List Nat)) (e : Ending) (w' : World) : Prop :=
  ∃ A c B d es os, e = .returned (.agg #[.int .i64 room, .int .i64 fuse, .slice A es.length c, .slice B os.length d]) ∧ es.map Ent.file = fs ∧ os.map OpE.op = ops ∧ OwnD w' w.heap.size A c B d es os ∧ Below w.heap.size w w'

set_option maxHeartbeats 1000000 in
theorem toDisk_any (room fuse : Int) (A : Option Addr) (n c : Nat) (B : Option Addr) (m d : Nat) (es : List Ent) (os : List OpE) (w : World) (hr : SlF w A n es) (hn : n ≤ 2097152) (hs : ∀ e ∈ es, e.d.n ≤ 2097152)
    (ho : SlO w B m os) (hm : m ≤ 2097152) (ht : ∀ e ∈ os, e.d.n ≤ 2097152) :
    Calls Try.prog 22 #[.agg #[.int .i64 room, .int .i64 fuse, .slice A n c, .slice B m d]] w (MadeD w room fuse (es.map Ent.file) (os.map OpE.op)) := by
  have C := Lib.hid (fun w' (hb : Below w.heap.size w w') => toFiles_any A n c es w' (hr.below hb) hn hs)
  have D := Lib.hid (fun w' (hb : Below w.heap.size w w') => toOps_any B m d os w' (ho.below hb) hm ht)
  clear hr hs ho ht
  generalize es.map Ent.file = fs at C ⊢
  generalize os.map OpE.op = ops at D ⊢
  go_enter Try.func22, Try.ntmps22
  go_wp2_with fail
  refine (C.out _ (below_a3 _ _ _ _)).mono ?_
  rintro e w1 ⟨A1, c1, es1, rfl, hf1, ho1, hb1⟩
  obtain ⟨hc, hf⟩ := bcell hb1
  have hz : w.heap.size + 1 + 1 < w1.heap.size := by have := hb1.size; simp at this; omega
  have hz' : w.heap.size + 1 < w1.heap.size := by omega
  have hz'' : w.heap.size < w1.heap.size := by omega
  have HF1 := Lib.hid hf1
  have HB := Lib.hid hb1
  have HO := Lib.hid ho1
  clear hb1 hf1 ho1
  go_wp2_with fail
  refine (D.out _ ?_).mono ?_
  · exact ((below_a3 _ _ _ _).trans (HB.out.mono (by simp; omega))).setCell (by simp; omega) _
  rintro e w2 ⟨B2, d2, os2, rfl, hf2, ho2, hb2⟩
  obtain ⟨hc2, hg2⟩ := bcell hb2
  have hz2 : w.heap.size + 1 + 1 < w2.heap.size := by have := hb2.size; simp at this; omega
  have HF2 := Lib.hid hf2
  have HB2 := Lib.hid hb2
  have HO2 := Lib.hid ho2
  clear hb2 hf2 ho2
  go_wp2
  refine bodyPost_ret (v := .agg #[.int .i64 room, .int .i64 fuse, .slice A1 es1.length c1, .slice B2 os2.length d2]) (by simp [results, Try.results22, go_sem, hc2, hc, hz']) rfl ⟨A1, c1, B2, d2, es1, os2, rfl, HF1.out, HF2.out, ?_, ?_⟩
  · have h1 : OwnF (w1.setCell ⟨w.heap.size + 1 + 1, 2, none⟩ (.slice A1 es1.length c1)) (w.heap.size + 1 + 1 + 1) A1 c1 es1 := by
      have := HO.out
      simp only [World.size_alloc] at this
      exact this.keep (fun k hk _ => Below.heap_setCell _ _ _ _ (by simp; omega))
    have h2 : OwnD w2 (w.heap.size + 1 + 1 + 1) A1 c1 B2 d2 es1 os2 := ⟨h1.below HB2.out, HO2.out.mono (by simp; omega), apart_of_time h1.dat (Nat.le_refl _) HO2.out.dat (Nat.le_refl _)⟩
    refine OwnD.mono (OwnD.lows h2 ?_) (by omega)
    exact Lows.set (Lows.set (Lows.set (Lows.set (Lows.set (Lows.refl _ _) (by simp <;> omega) _) (by simp <;> omega) _) (by simp <;> omega) _) (by simp <;> omega) _) (by simp <;> omega) _
  · refine Below.setCell (Below.setCell (Below.setCell (Below.setCell (Below.setCell ?_ (by simp <;> omega) _) (by simp <;> omega) _) (by simp <;> omega) _) (by simp <;> omega) _) (by simp <;> omega) _
    exact (((below_a3 _ _ _ _).trans (HB.out.mono (by simp; omega))).setCell (by simp; omega) _).trans (HB2.out.mono (by simp; omega))
end Go.Proofs.Ytdeijiochianpaa
