/- Plain mathematics of valid disks: limits, names in order, the replay (no program; no condition). // The model's function that asks whether a disk is valid, at a disk beyond the limits. // The contract of the model's function that asks whether a disk is valid. -/
import Derived.IntWalk
import Derived.Test.YtejibpajjoaldaaC2
import Derived.Test.YtejibpajjoaldaaC5
namespace Go.Proofs.Ytejibpajjoaldaa
open Go.RowKit

def opOkF (o : OpD) : Bool := opOkB o.1 o.2.1 o.2.2.1 o.2.2.2.length
def limB (d : DD) : Bool := decide (0 ≤ d.room ∧ d.room ≤ 200000 ∧ -1 ≤ d.fuse ∧ d.fuse ≤ 2000 ∧ d.fs.length ≤ 12 ∧ d.ops.length ≤ 60)
def namesFrom : Option ByteArray → List FileD → Bool
  | _, [] => true
  | p, f :: r => nameB f.1 && ((match p with | none => true | some q => ltB q f.1) && namesFrom (some f.1) r)
def prevAt (l : List FileD) : Nat → Option ByteArray
  | 0 => none
  | k + 1 => (l[k]?).map Prod.fst
theorem namesFrom_at {p : Option ByteArray} {l : List FileD} {k : Nat} {f : FileD} (h : l[k]? = some f) : namesFrom p (l.drop k) = (nameB f.1 && ((match p with | none => true | some q => ltB q f.1) && namesFrom (some f.1) (l.drop (k + 1)))) := by
  obtain ⟨hk, rfl⟩ := List.getElem?_eq_some_iff.1 h
  rw [List.drop_eq_getElem_cons hk]
  cases p <;> rfl

/-- The replay: what the operations make, if each of them may be done. -/
def visF (room : Int) : List FileD → List OpD → Option (List FileD)
  | l, [] => some l
  | l, o :: r => if opOkF o && fitsF l o then (if (totF (makeF l o) : Int) ≤ room then visF room (makeF l o) r else none) else none
def okD (d : DD) : Option (List FileD) := if limB d && (namesFrom none d.fs && decide ((totF d.fs : Int) ≤ d.room)) then visF d.room d.fs d.ops else none
def DD.ok (d : DD) : Bool := (okD d).isSome

theorem visF_at {room : Int} {l : List FileD} {ops : List OpD} {k : Nat} {o : OpD} (h : ops[k]? = some o) : visF room l (ops.drop k) = if opOkF o && fitsF l o then (if (totF (makeF l o) : Int) ≤ room then visF room (makeF l o) (ops.drop (k + 1)) else none) else none := by
  obtain ⟨hk, rfl⟩ := List.getElem?_eq_some_iff.1 h
  rw [List.drop_eq_getElem_cons hk, visF]
theorem visF_seen {room : Int} : ∀ {ops : List OpD} {l l' : List FileD}, visF room l ops = some l' → l' = ops.foldl makeF l
  | [], l, l', h => by simp [visF] at h; exact h.symm
  | o :: r, l, l', h => by
    unfold visF at h
    split at h
    · split at h
      · exact visF_seen (ops := r) (l := makeF l o) h
      · cases h
    · cases h
theorem okD_some {d : DD} {l : List FileD} (h : okD d = some l) : limB d = true ∧ namesFrom none d.fs = true ∧ (totF d.fs : Int) ≤ d.room ∧ visF d.room d.fs d.ops = some l := by
  unfold okD at h
  split at h
  · rename_i hc
    simp at hc
    exact ⟨hc.1, hc.2.1, hc.2.2, h⟩
  · cases h
theorem limB_iff {d : DD} (h : limB d = true) : 0 ≤ d.room ∧ d.room ≤ 200000 ∧ -1 ≤ d.fuse ∧ d.fuse ≤ 2000 ∧ d.fs.length ≤ 12 ∧ d.ops.length ≤ 60 := by
  unfold limB at h
  simpa using h
/-- What the replay passes through: at most 12 files, their bytes within the room. -/
theorem visF_prefix {room : Int} : ∀ {ops : List OpD} {l l' : List FileD} (k : Nat), visF room l ops = some l' → l.length ≤ 12 → (totF l : Int) ≤ room → ((ops.take k).foldl makeF l).length ≤ 12 ∧ (totF ((ops.take k).foldl makeF l) : Int) ≤ room ∧ visF room ((ops.take k).foldl makeF l) (ops.drop k) = some l'
  | ops, l, l', 0, h, h1, h2 => ⟨by simpa using h1, by simpa using h2, by simpa using h⟩
  | [], l, l', k + 1, h, h1, h2 => ⟨by simpa using h1, by simpa using h2, by simpa using h⟩
  | o :: r, l, l', k + 1, h, h1, h2 => by
    unfold visF at h
    split at h
    · rename_i hc
      simp at hc
      split at h
      · rename_i ht
        simpa using visF_prefix k h (make_len hc.2 h1) ht
      · cases h
    · cases h
theorem visF_next {room : Int} {l l' : List FileD} {ops : List OpD} {o : OpD} {r : List OpD} (h : visF room l ops = some l') (hops : ops = o :: r) : opOkF o = true ∧ fitsF l o = true ∧ (totF (makeF l o) : Int) ≤ room := by
  subst hops
  unfold visF at h
  split at h
  · rename_i hc
    simp at hc
    split at h
    · rename_i ht
      exact ⟨hc.1, hc.2, ht⟩
    · cases h
  · cases h
theorem opOkF_bounds {o : OpD} (h : opOkF o = true) : (o.1 = 1 ∨ o.1 = 2 ∨ o.1 = 3 ∨ o.1 = 4) ∧ o.2.2.2.length ≤ 200000 := by
  unfold opOkF opOkB at h
  simp only [Bool.and_eq_true, Bool.or_eq_true, decide_eq_true_eq] at h
  obtain ⟨_, h⟩ := h
  rcases h with (⟨h1 | h1, h2, h3⟩ | ⟨h1, h2, h3, h4⟩) | ⟨h1, h2, h3⟩ <;> omega
theorem fitsF_has {l : List FileD} {o : OpD} (h : fitsF l o = true) (hk : o.1 = 2 ∨ o.1 = 3) : hasF o.2.1 l = true := by
  unfold fitsF at h
  rcases hk with hk | hk
  · rw [if_neg (by omega), if_neg (by omega)] at h
    exact h
  · rw [if_neg (by omega), if_pos hk] at h
    simp at h
    exact h.1
end Go.Proofs.Ytejibpajjoaldaa
namespace Go.Proofs.Ytejibpajjoaldaa
open Go.RowKit

/-- What the law has measured of a disk. -/
structure Modest (n m : Nat) (es : List Ent) (os : List OpE) : Prop where
  fl : n ≤ 1048576
  ol : m ≤ 1048576
  fe : ∀ e ∈ es, e.nm.size ≤ 1048576 ∧ e.d.n ≤ 1048576
  ft : totE es ≤ 1048576
  oe : ∀ o ∈ os, o.nm.size ≤ 1048576 ∧ o.to.size ≤ 1048576 ∧ o.d.n ≤ 1048576

def ddOf (room fuse : Int) (es : List Ent) (os : List OpE) : DD := ⟨room, fuse, es.map Ent.file, os.map OpE.op⟩

set_option maxRecDepth 10000 in
set_option maxHeartbeats 4000000 in
theorem specOk_lim (room fuse : Int) (A : Option Addr) (n c : Nat) (B : Option Addr) (m d : Nat) (w : World) (hn : n ≤ 1048576) (hm : m ≤ 1048576) (h : ¬ (0 ≤ room ∧ room ≤ 200000 ∧ -1 ≤ fuse ∧ fuse ≤ 2000 ∧ n ≤ 12 ∧ m ≤ 60)) :
    Calls Try.prog 49 #[.agg #[.int .i64 room, .int .i64 fuse, .slice A n c, .slice B m d]] w (Tells w false) := by
  by_cases h1 : room < 0
  · have d1 : decide (room < 0) = true := by simpa using h1
    clear h
    go_enter Try.func49, Try.ntmps49
    go_wp2
    go_quiet (fail)
    go_wp2
    go_ret
    exact ⟨rfl, below_drewN (below_a1 _ _) _⟩
  · have d1 : decide (room < 0) = false := by simpa using h1
    by_cases h2 : 200000 < room
    · have d2 : decide (200000 < room) = true := by simpa using h2
      clear h
      go_enter Try.func49, Try.ntmps49
      go_wp2
      go_quiet (fail)
      go_wp2
      go_ret
      exact ⟨rfl, below_drewN (below_a1 _ _) _⟩
    · have d2 : decide (200000 < room) = false := by simpa using h2
      by_cases h3 : fuse < -1
      · have d3 : decide (fuse < -1) = true := by simpa using h3
        clear h
        go_enter Try.func49, Try.ntmps49
        go_wp2
        go_quiet (fail)
        go_wp2
        go_ret
        exact ⟨rfl, below_drewN (below_a1 _ _) _⟩
      · have d3 : decide (fuse < -1) = false := by simpa using h3
        by_cases h4 : 2000 < fuse
        · have d4 : decide (2000 < fuse) = true := by simpa using h4
          clear h
          go_enter Try.func49, Try.ntmps49
          go_wp2
          go_quiet (fail)
          go_wp2
          go_ret
          exact ⟨rfl, below_drewN (below_a1 _ _) _⟩
        · have d4 : decide (2000 < fuse) = false := by simpa using h4
          by_cases h5 : 12 < n
          · have d5 : decide ((12 : Int) < (n : Int)) = true := by simp; omega
            have d5' : decide (12 < n) = true := by simpa using h5
            clear h
            go_enter Try.func49, Try.ntmps49
            go_wp2
            go_quiet (fail)
            go_wp2
            go_ret
            exact ⟨rfl, below_drewN (below_a1 _ _) _⟩
          · have d5 : decide ((12 : Int) < (n : Int)) = false := by simp; omega
            have d5' : decide (12 < n) = false := by simpa using h5
            by_cases h6 : 60 < m
            · have d6 : decide ((60 : Int) < (m : Int)) = true := by simp; omega
              have d6' : decide (60 < m) = true := by simpa using h6
              clear h
              go_enter Try.func49, Try.ntmps49
              go_wp2
              go_quiet (fail)
              go_wp2
              go_ret
              exact ⟨rfl, below_drewN (below_a1 _ _) _⟩
            · have d6 : decide ((60 : Int) < (m : Int)) = false := by simp; omega
              have d6' : decide (60 < m) = false := by simpa using h6
              exact absurd (by omega) h

end Go.Proofs.Ytejibpajjoaldaa
namespace Go.Proofs.Ytejibpajjoaldaa
open Go.RowKit

theorem specName_q (s : ByteArray) (b : Bool) (h : nameB s = b) (w : World) (hs : s.size ≤ 2097152) : Calls Try.prog 80 #[.string s] w fun e w' => e = .returned (.bool b) ∧ w' = w := by
  subst h
  exact (specName s w hs).mono fun _ _ ⟨h1, h2⟩ => ⟨h1, h2.symm⟩
theorem okD_false_names {d : DD} (h : namesFrom none d.fs = false) : DD.ok d = false := by
  unfold DD.ok okD
  rw [h]
  simp
theorem okD_false_tot {d : DD} (h : ¬ (totF d.fs : Int) ≤ d.room) : DD.ok d = false := by
  unfold DD.ok okD
  simp [h]
theorem okD_vis {d : DD} (h1 : limB d = true) (h2 : namesFrom none d.fs = true) (h3 : (totF d.fs : Int) ≤ d.room) : DD.ok d = (visF d.room d.fs d.ops).isSome := by
  unfold DD.ok okD
  rw [h1, h2]
  simp [h3]

theorem SlF.drew {w : World} {A : Option Addr} {n : Nat} {es : List Ent} (h : SlF w A n es) : SlF w.drew A n es := h.keep (w' := w.drew) (Nat.le_refl _) (fun _ _ => rfl)
theorem bulkE {w : World} {e : Ent} : ∀ {es : List Ent}, e ∈ es → e.d.Ok w → e.d.n ≤ totF (es.map Ent.file)
  | [], h, _ => by cases h
  | x :: r, h, ho => by
    rw [List.map_cons, totF_cons]
    rcases List.mem_cons.1 h with rfl | h
    · have := ho.rd.len
      simp only [Ent.file]
      omega
    · have := bulkE h ho
      omega

set_option maxRecDepth 10000 in
set_option maxHeartbeats 8000000 in
theorem specOk_in (room fuse : Int) (A : Option Addr) (n c : Nat) (B : Option Addr) (m d : Nat) (es : List Ent) (os : List OpE) (w : World) (hf : SlF w A n es) (ho : SlO w B m os) (hM : Modest n m es os) (h1 : 0 ≤ room) (h2 : room ≤ 200000) (h3 : -1 ≤ fuse) (h4 : fuse ≤ 2000) (h5 : n ≤ 12) (h6 : m ≤ 60) :
    Calls Try.prog 49 #[.agg #[.int .i64 room, .int .i64 fuse, .slice A n c, .slice B m d]] w (Tells w (DD.ok (ddOf room fuse es os))) := by
  have d1 : decide (room < 0) = false := by simp; omega
  have d2 : decide (200000 < room) = false := by simp; omega
  have d3 : decide (fuse < -1) = false := by simp; omega
  have d4 : decide (2000 < fuse) = false := by simp; omega
  have d5 : decide ((12 : Int) < (n : Int)) = false := by simp; omega
  have d5' : decide (12 < n) = false := by simp; omega
  have d6 : decide ((60 : Int) < (m : Int)) = false := by simp; omega
  have d6' : decide (60 < m) = false := by simp; omega
  have HF := Lib.hid hf
  have HO := Lib.hid ho
  have HM := Lib.hid hM
  have CB := Lib.hid (fun W (h : Below w.heap.size w W) => specBytes A n c es W (hf.below h) (by omega) (by have := hM.ft; omega))
  have ht := hM.ft
  have HT := Lib.hid (totE_file es hf.each)
  have HLIM : Hid (limB (ddOf room fuse es os) = true) := Lib.hid (by
    simp only [limB, ddOf, List.length_map, decide_eq_true_eq]
    have := hf.len
    have := ho.len
    omega)
  generalize totE es = tot at CB ht HT
  clear hf ho hM
  have HOKF : Hid (¬ (totF (es.map Ent.file) : Int) ≤ room → DD.ok (ddOf room fuse es os) = false) := Lib.hid (fun h => okD_false_tot h)
  have HOKN : Hid (namesFrom none (es.map Ent.file) = false → DD.ok (ddOf room fuse es os) = false) := Lib.hid (fun h => okD_false_names h)
  have HOKV : Hid (namesFrom none (es.map Ent.file) = true → (totF (es.map Ent.file) : Int) ≤ room → DD.ok (ddOf room fuse es os) = (visF room (es.map Ent.file) (os.map OpE.op)).isSome) := Lib.hid (fun a b => okD_vis HLIM.out a b)
  generalize DD.ok (ddOf room fuse es os) = ans at HOKF HOKN HOKV ⊢
  by_cases htr : (tot : Int) ≤ room
  · have dt : decide (room < (tot : Int)) = false := by simp; omega
    have HTR : Hid ((totF (es.map Ent.file) : Int) ≤ room) := Lib.hid (by rw [← HT.out]; exact htr)
    go_enter Try.func49, Try.ntmps49
    go_wp2
    go_region_held3 (fun W => W.cell? ⟨w.heap.size, 0, none⟩ = some (.int .i64 room) ∧ W.cell? ⟨w.heap.size, 1, none⟩ = some (.int .i64 fuse) ∧ W.cell? ⟨w.heap.size, 2, none⟩ = some (.slice A n c) ∧ W.cell? ⟨w.heap.size, 3, none⟩ = some (.slice B m d))
      (first
        | go_keep
        | (exact ⟨(hb1.cell (p := ⟨w.heap.size, 0, none⟩) (by simp)).trans (by simp), (hb1.cell (p := ⟨w.heap.size, 1, none⟩) (by simp)).trans (by simp), (hb1.cell (p := ⟨w.heap.size, 2, none⟩) (by simp)).trans (by simp), (hb1.cell (p := ⟨w.heap.size, 3, none⟩) (by simp)).trans (by simp)⟩))
      (first
        | (go_at_call 53; ((with_reducible refine (CB.out _ (by first | exact (below_a1 _ _).drew | exact below_a1 _ _)).mono ?_)); rintro e1 w1 ⟨rfl, hb1⟩))
    have HB1 : Hid (Below w.heap.size w w1) := Lib.hid (by first | exact below_chain (below_a1 w _) hb1 | exact below_chain (below_a1 w _).drew hb1)
    have BX : Hid (Box4 w1 w.heap.size (.int .i64 room) (.int .i64 fuse) (.slice A n c) (.slice B m d)) := Lib.hid ((Box4.new w _ _ _ _ 26).keep hb1.size (hb1.block w.heap.size (by simp)))
    obtain ⟨lb, x0, x1, x2, x3⟩ := BX.out
    clear hb1
    go_wp2
    go_loopw [49] (fun i wr => ∃ k : Nat, k ≤ n ∧ i = .int .i64 k ∧ Hid (namesFrom none (es.map Ent.file) = namesFrom (prevAt (es.map Ent.file) k) ((es.map Ent.file).drop k)) ∧ Hid (Box4 wr w.heap.size (.int .i64 room) (.int .i64 fuse) (.slice A n c) (.slice B m d)) ∧ Hid (Below w.heap.size w wr)) (fun i _ => n - (intOf i).toNat)
    case atStart => exact ⟨0, Nat.zero_le _, rfl, Lib.hid rfl, BX, HB1⟩
    case round =>
      obtain ⟨k, hk, rfl, hnm, hbx, hbel⟩ := hrel
      obtain ⟨lb, x0, x1, x2, x3⟩ := hbx.out
      by_cases hlt : k < n
      · obtain ⟨b, off, e, hA, hbw, he, hok, c0, c1⟩ := HF.out.at_ hlt
        subst hA
        have c0 := (hbel.out.cell (p := ⟨b, off + k * 2, none⟩) hbw).trans c0
        have c1 := (hbel.out.cell (p := ⟨b, off + k * 2 + 1, none⟩) hbw).trans c1
        have hes := (HM.out.fe e (List.mem_of_getElem? he.out)).1
        have hfe : (es.map Ent.file)[k]? = some e.file := by rw [List.getElem?_map, he.out]; rfl
        have hst := namesFrom_at (p := prevAt (es.map Ent.file) k) hfe
        have HPV : Hid (prevAt (es.map Ent.file) (k + 1) = some e.nm) := Lib.hid (by simp only [prevAt]; rw [hfe]; rfl)
        by_cases hgood : nameB e.nm = true
        · have CN := Lib.hid (fun W => specName_q e.nm true hgood W (by omega))
          by_cases hk0 : 0 < k
          · obtain ⟨p, hp⟩ : ∃ p, p = k - 1 := ⟨_, rfl⟩
            have hpn : p < n := by omega
            obtain ⟨b2, off2, e2, hA2, hbw2, he2, hok2, p0, p1⟩ := HF.out.at_ hpn
            obtain ⟨rfl, rfl⟩ : b = b2 ∧ off = off2 := by
              injection hA2 with h
              injection h with h1 h2
              exact ⟨h1, h2⟩
            have p0 := (hbel.out.cell (p := ⟨b, off + p * 2, none⟩) hbw).trans p0
            have hbr : b < wr.heap.size := Nat.lt_of_lt_of_le hbw hbel.out.size
            have p0 : (wr.alloc (.cells #[.string e.nm, .slice e.d.A e.d.n e.d.c] 87)).cell? ⟨b, off + p * 2, none⟩ = some (.string e2.nm) := (World.cell?_alloc_lt _ _ _ hbr).trans p0
            have hpe : (k : Int) - 1 = (p : Int) := by omega
            have hp0 : (0 : Int) ≤ (p : Int) := by omega
            have hpN : (p : Int) < (n : Int) := by omega
            have hk1 : (1 : Int) ≤ (k : Int) := by omega
            have hfp : (es.map Ent.file)[p]? = some e2.file := by rw [List.getElem?_map, he2.out]; rfl
            have hpv : prevAt (es.map Ent.file) k = some e2.nm := by
              rw [show k = p + 1 by omega]
              simp only [prevAt]
              rw [hfp]
              rfl
            have d0 : decide ((0 : Int) < (k : Int)) = true := by simp; omega
            have d0' : decide (0 < k) = true := by simp; omega
            by_cases hlts : ltB e2.nm e.nm = true
            · have hnew : Hid (namesFrom none (es.map Ent.file) = namesFrom (prevAt (es.map Ent.file) (k + 1)) ((es.map Ent.file).drop (k + 1))) := Lib.hid (by
                rw [hnm.out, hst, HPV.out, hpv]
                simp only [Ent.file, hgood, hlts, Bool.true_and])
              have hq : Op.bytesLess e2.nm.toList e.nm.toList = true := hlts
              have HP := Lib.hid hp
              have hw2 : IntKind.i64.wrap (p : Int) = (p : Int) := IntWalk.i64_in _ (by omega)
              have hw1 : IntKind.i64.wrap ((k : Int) - 1) = (p : Int) := by rw [hpe]; exact hw2
              have htn : ((p : Int)).toNat = p := by simp
              clear hst hfe hk0 hpv hfp hlts hp hA2 p1 hok2 he2
              go_wp2
              go_quiet ((go_at_call 80; exact Calls.quiet_of_same (CN.out _)))
              go_wp2
              go_roundw
              case rel => exact ⟨k + 1, by omega, by go_num, hnew, Lib.hid ((hbx.out.alloc _).drewN _), Lib.hid (below_drewN (hbel.out.alloc hbel.out.size _) _)⟩
              case measure => simp [intOf]; omega
            · have hltf : ltB e2.nm e.nm = false := by simpa using hlts
              have hans : Hid (ans = false) := Lib.hid (HOKN.out (by
                rw [hnm.out, hst, hpv]
                simp only [Ent.file, hltf, Bool.false_and, Bool.and_false]))
              have hq : Op.bytesLess e2.nm.toList e.nm.toList = false := hltf
              have hw2 : IntKind.i64.wrap (p : Int) = (p : Int) := IntWalk.i64_in _ (by omega)
              have hw1 : IntKind.i64.wrap ((k : Int) - 1) = (p : Int) := by rw [hpe]; exact hw2
              have htn : ((p : Int)).toNat = p := by simp
              clear hst hfe hk0 hpv hfp hlts hltf hp hA2 p1 hok2 he2
              go_wp2
              go_quiet ((go_at_call 80; exact Calls.quiet_of_same (CN.out _)))
              go_wp2
              go_ret
              exact ⟨ret_bool hans.out.symm, below_drewN (hbel.out.alloc hbel.out.size _) _⟩
          · have hk00 : k = 0 := by omega
            have hnew : Hid (namesFrom none (es.map Ent.file) = namesFrom (prevAt (es.map Ent.file) (k + 1)) ((es.map Ent.file).drop (k + 1))) := Lib.hid (by
              rw [hnm.out, hst, HPV.out]
              simp only [prevAt, hk00, Ent.file, hgood, Bool.true_and])
            have d0 : decide ((0 : Int) < (k : Int)) = false := by simp; omega
            have d0' : decide (0 < k) = false := by simp; omega
            clear hst hfe hk00 hk0
            go_wp2
            go_quiet ((go_at_call 80; exact Calls.quiet_of_same (CN.out _)))
            go_wp2
            go_roundw
            case rel => exact ⟨k + 1, by omega, by go_num, hnew, Lib.hid ((hbx.out.alloc _).drewN _), Lib.hid (below_drewN (hbel.out.alloc hbel.out.size _) _)⟩
            case measure => simp [intOf]; omega
        · have hbad : nameB e.nm = false := by simpa using hgood
          have CN := Lib.hid (fun W => specName_q e.nm false hbad W (by omega))
          have hans : Hid (ans = false) := Lib.hid (HOKN.out (by
            rw [hnm.out, hst]
            simp only [Ent.file, hbad, Bool.false_and]))
          clear hst hfe hgood hbad
          go_wp2
          go_quiet ((go_at_call 80; exact Calls.quiet_of_same (CN.out _)))
          go_wp2
          go_ret
          exact ⟨ret_bool hans.out.symm, below_drewN (hbel.out.alloc hbel.out.size _) _⟩
      · have hall : namesFrom none (es.map Ent.file) = true := by
          rw [hnm.out, List.drop_eq_nil_of_le (by rw [List.length_map, HF.out.len]; omega)]
          cases prevAt (es.map Ent.file) k <;> rfl
        have HA : Hid (ans = (visF room (es.map Ent.file) (os.map OpE.op)).isSome) := Lib.hid (HOKV.out hall HTR.out)
        clear hall
        go_wp2
        go_loopw [5, 80] (fun v i wr => ∃ (k : Nat) (A1 : Option Addr) (c1 : Nat) (es1 : List Ent), k ≤ m ∧ i = .int .i64 k ∧ v = .slice A1 es1.length c1 ∧ es1.length ≤ 12 ∧ Hid (SlF wr A1 es1.length es1) ∧ Hid (visF room (es.map Ent.file) (os.map OpE.op) = visF room (es1.map Ent.file) ((os.map OpE.op).drop k)) ∧ Hid ((totF (es1.map Ent.file) : Int) ≤ room) ∧ Hid (Box4 wr w.heap.size (.int .i64 room) (.int .i64 fuse) (.slice A n c) (.slice B m d)) ∧ Hid (Below w.heap.size w wr)) (fun _ i _ => m - (intOf i).toNat)
        case atStart => exact ⟨0, A, c, es, Nat.zero_le _, rfl, by rw [HF.out.len], by rw [HF.out.len]; exact h5, Lib.hid (by have := HF.out.below hbel.out; rw [← HF.out.len] at this; exact this), Lib.hid rfl, HTR, hbx, hbel⟩
        case round =>
          obtain ⟨k, A1, c1, es1, hk2, rfl, rfl, hl12, hsl, hvis, htot, hbx2, hbel2⟩ := hrel
          obtain ⟨lb2, y0, y1, y2, y3⟩ := hbx2.out
          clear x0 x1 x2 x3 lb
          by_cases hlt2 : k < m
          · obtain ⟨b, off, o, hB, hbw, he, hok, c0, c1', c2, c3⟩ := HO.out.at_ hlt2
            subst hB
            have c0 := (hbel2.out.cell (p := ⟨b, off + k * 4, none⟩) hbw).trans c0
            have c1' := (hbel2.out.cell (p := ⟨b, off + k * 4 + 1, none⟩) hbw).trans c1'
            have c2 := (hbel2.out.cell (p := ⟨b, off + k * 4 + 2, none⟩) hbw).trans c2
            have c3 := (hbel2.out.cell (p := ⟨b, off + k * 4 + 3, none⟩) hbw).trans c3
            have hos := HM.out.oe o (List.mem_of_getElem? he.out)
            have hoe : (os.map OpE.op)[k]? = some o.op := by rw [List.getElem?_map, he.out]; rfl
            have hst := visF_at (room := room) (l := es1.map Ent.file) hoe
            have hxl : o.d.xs.length = o.d.n := hok.out.rd.len
            have hoo : opOkF o.op = opOkB o.kind o.nm o.to o.d.n := by unfold opOkF; simp only [OpE.op, hxl]
            have CO := Lib.hid (fun W => specOpOk o.kind o.nm o.to o.d.A o.d.n o.d.c W (by omega) (by omega) (by omega))
            have BO := Lib.hid (Box4.new wr (.int .i64 o.kind) (.string o.nm) (.string o.to) (.slice o.d.A o.d.n o.d.c) 30)
            have BD := Lib.hid (hbx2.out.alloc (.cells #[.int .i64 o.kind, .string o.nm, .string o.to, .slice o.d.A o.d.n o.d.c] 30))
            have BE := Lib.hid (hbel2.out.alloc hbel2.out.size (.cells #[.int .i64 o.kind, .string o.nm, .string o.to, .slice o.d.A o.d.n o.d.c] 30))
            have SL := Lib.hid (hsl.out.below (below_a1 wr (.cells #[.int .i64 o.kind, .string o.nm, .string o.to, .slice o.d.A o.d.n o.d.c] 30)))
            by_cases hop : opOkB o.kind o.nm o.to o.d.n = true
            · rw [hop] at CO
              have hopF : opOkF o.op = true := by rw [hoo]; exact hop
              have hbd := opOkF_bounds hopF
              have CF := Lib.hid (fun W (h : SlF W A1 es1.length es1) => specFits A1 es1.length c1 es1 o W h (by omega))
              by_cases hfit : fitsF (es1.map Ent.file) o.op = true
              · rw [hfit] at CF
                have hes1 : ∀ e ∈ es1, e.d.n ≤ 1048576 := fun e he => by
                  have h1 := bulkE he (hsl.out.each e he)
                  have := htot.out
                  omega
                have CM := Lib.hid (fun W (h : SlF W A1 es1.length es1) (hd : o.d.Ok W) => specMake A1 es1.length c1 es1 o W h (by omega) hd (fun hh => fitsF_has hfit hh) hes1 (by omega))
                have hml := make_len hfit (by rw [List.length_map]; exact hl12)
                have hmt := make_tot (es1.map Ent.file) o.op
                have hmt2 : totF (makeF (es1.map Ent.file) o.op) ≤ 1000000 := by
                  have := htot.out
                  have h8 : o.op.2.2.2.length ≤ 200000 := hbd.2
                  omega
                have CB2 := Lib.hid (fun W A2 c2 (es2 : List Ent) (h : SlF W A2 es2.length es2) (hm : es2.map Ent.file = makeF (es1.map Ent.file) o.op) => specBytes A2 es2.length c2 es2 W h (by have := congrArg List.length hm; rw [List.length_map] at this; omega) (by rw [totE_file es2 h.each, hm]; omega))
                by_cases hroom : (totF (makeF (es1.map Ent.file) o.op) : Int) ≤ room
                · have hvis2 : Hid (visF room (es.map Ent.file) (os.map OpE.op) = visF room (makeF (es1.map Ent.file) o.op) ((os.map OpE.op).drop (k + 1))) := Lib.hid (by rw [hvis.out, hst, hopF, hfit]; simp [hroom])
                  have HR2 := Lib.hid hroom
                  have HR3 : Hid (Hid ((totF (makeF (es1.map Ent.file) o.op) : Int) ≤ room)) := Lib.hid (Lib.hid hroom)
                  clear hst hoe hoo hop hopF hfit hxl hbd hmt hes1 hroom
                  go_wp2_with fail
                  refine (CO.out _).mono ?_
                  rintro e1 w2 ⟨rfl, hb2⟩
                  have BO2 := Lib.hid (BO.out.below hb2)
                  obtain ⟨z, z0, z1, z2, z3⟩ := BO2.out
                  have BD2 := Lib.hid (BD.out.below hb2)
                  have BE2 := Lib.hid (below_chain BE.out hb2)
                  have SL2 := Lib.hid (SL.out.below hb2)
                  clear hb2
                  go_wp2_with fail
                  refine (CF.out _ SL2.out).mono ?_
                  rintro e1 w3 ⟨rfl, hb3⟩
                  have BO3 := Lib.hid (BO2.out.below hb3)
                  have BD3 := Lib.hid (BD2.out.below hb3)
                  have BE3 := Lib.hid (below_chain BE2.out hb3)
                  have SL3 := Lib.hid (SL2.out.below hb3)
                  clear hb3 z z0 z1 z2 z3
                  obtain ⟨z, z0, z1, z2, z3⟩ := BO3.out
                  go_wp2_with fail
                  refine (CM.out _ SL3.out (hok.out.below BE3.out)).mono ?_
                  rintro e1 w4 ⟨A4, c4, es4, rfl, hf4, hsl4, hb4⟩
                  have BD4 := Lib.hid (BD3.out.below hb4)
                  have BE4 := Lib.hid (below_chain BE3.out hb4)
                  have SL4 := Lib.hid hsl4
                  have HF4 := Lib.hid hf4
                  have hl4 : es4.length ≤ 12 := by have := congrArg List.length hf4; rw [List.length_map] at this; omega
                  have htE : totE es4 = totF (makeF (es1.map Ent.file) o.op) := by rw [totE_file es4 hsl4.each, hf4]
                  have CB3 := Lib.hid (fun W (h : SlF W A4 es4.length es4) => CB2.out W A4 c4 es4 h hf4)
                  rw [htE] at CB3
                  have dt2 : decide (room < (totF (makeF (es1.map Ent.file) o.op) : Int)) = false := by simp; exact HR2.out
                  have ht9 : totF (makeF (es1.map Ent.file) o.op) ≤ 1000000 := hmt2
                  generalize totF (makeF (es1.map Ent.file) o.op) = tt at CB3 dt2 ht9 HR2
                  obtain ⟨t, t0, t1, t2, t3⟩ := BD4.out
                  clear hb4 hsl4 hf4 htE hmt2 z z0 z1 z2 z3 CB2
                  go_wp2
                  go_region_held3 (fun W => W.cell? ⟨w.heap.size, 0, none⟩ = some (.int .i64 room))
                    (first
                      | go_keep
                      | (exact (hb5.cell (p := ⟨w.heap.size, 0, none⟩) t).trans (by first | exact t0 | simp [*])))
                    (first
                      | (go_at_call 53; ((with_reducible refine (CB3.out _ (by first | exact SL4.out | exact SL4.out.drew)).mono ?_)); rintro e1 w5 ⟨rfl, hb5⟩))
                  all_goals
                    go_wp2
                    go_roundw
                    case rel => exact ⟨k + 1, A4, c4, es4, by omega, by go_num, rfl, hl4, Lib.hid (SL4.out.keep hb5.size hb5.block), Lib.hid (by rw [HF4.out]; exact hvis2.out), Lib.hid (by rw [HF4.out]; exact HR3.out.out), Lib.hid (BD4.out.keep hb5.size (hb5.block _ BD4.out.lt)), Lib.hid (by first | exact below_chain BE4.out hb5 | exact below_chain BE4.out.drew hb5)⟩
                    case measure => simp [intOf]; omega
                · have hans : Hid (ans = false) := Lib.hid (by rw [HA.out, hvis.out, hst, hopF, hfit]; simp [hroom])
                  have HR2 := Lib.hid hroom
                  clear hst hoe hoo hop hopF hfit hxl hbd hmt hes1 hroom
                  go_wp2_with fail
                  refine (CO.out _).mono ?_
                  rintro e1 w2 ⟨rfl, hb2⟩
                  have BO2 := Lib.hid (BO.out.below hb2)
                  obtain ⟨z, z0, z1, z2, z3⟩ := BO2.out
                  have BD2 := Lib.hid (BD.out.below hb2)
                  have BE2 := Lib.hid (below_chain BE.out hb2)
                  have SL2 := Lib.hid (SL.out.below hb2)
                  clear hb2
                  go_wp2_with fail
                  refine (CF.out _ SL2.out).mono ?_
                  rintro e1 w3 ⟨rfl, hb3⟩
                  have BO3 := Lib.hid (BO2.out.below hb3)
                  have BD3 := Lib.hid (BD2.out.below hb3)
                  have BE3 := Lib.hid (below_chain BE2.out hb3)
                  have SL3 := Lib.hid (SL2.out.below hb3)
                  clear hb3 z z0 z1 z2 z3
                  obtain ⟨z, z0, z1, z2, z3⟩ := BO3.out
                  go_wp2_with fail
                  refine (CM.out _ SL3.out (hok.out.below BE3.out)).mono ?_
                  rintro e1 w4 ⟨A4, c4, es4, rfl, hf4, hsl4, hb4⟩
                  have BD4 := Lib.hid (BD3.out.below hb4)
                  have BE4 := Lib.hid (below_chain BE3.out hb4)
                  have SL4 := Lib.hid hsl4
                  have htE : totE es4 = totF (makeF (es1.map Ent.file) o.op) := by rw [totE_file es4 hsl4.each, hf4]
                  have CB3 := Lib.hid (fun W (h : SlF W A4 es4.length es4) => CB2.out W A4 c4 es4 h hf4)
                  rw [htE] at CB3
                  have dt2 : decide (room < (totF (makeF (es1.map Ent.file) o.op) : Int)) = true := by have := HR2.out; simp; omega
                  have ht9 : totF (makeF (es1.map Ent.file) o.op) ≤ 1000000 := hmt2
                  generalize totF (makeF (es1.map Ent.file) o.op) = tt at CB3 dt2 ht9 HR2
                  obtain ⟨t, t0, t1, t2, t3⟩ := BD4.out
                  clear hb4 hsl4 hf4 htE hmt2 z z0 z1 z2 z3 CB2
                  go_wp2
                  go_region_held3 (fun W => W.cell? ⟨w.heap.size, 0, none⟩ = some (.int .i64 room))
                    (first
                      | go_keep
                      | (exact (hb5.cell (p := ⟨w.heap.size, 0, none⟩) t).trans (by first | exact t0 | simp [*])))
                    (first
                      | (go_at_call 53; ((with_reducible refine (CB3.out _ (by first | exact SL4.out | exact SL4.out.drew)).mono ?_)); rintro e1 w5 ⟨rfl, hb5⟩))
                  all_goals
                    go_wp2
                    go_ret
                    exact ⟨ret_bool hans.out.symm, by first | exact below_chain BE4.out hb5 | exact below_chain BE4.out.drew hb5⟩
              · have hff : fitsF (es1.map Ent.file) o.op = false := by simpa using hfit
                rw [hff] at CF
                have hans : Hid (ans = false) := Lib.hid (by rw [HA.out, hvis.out, hst, hff]; simp)
                clear hst hoe hoo hop hopF hfit hff hxl hbd
                go_wp2_with fail
                refine (CO.out _).mono ?_
                rintro e1 w2 ⟨rfl, hb2⟩
                obtain ⟨z, z0, z1, z2, z3⟩ := BO.out.below hb2
                have BE2 := Lib.hid (below_chain BE.out hb2)
                have SL2 := Lib.hid (SL.out.below hb2)
                clear hb2
                go_wp2_with fail
                refine (CF.out _ SL2.out).mono ?_
                rintro e1 w3 ⟨rfl, hb3⟩
                go_wp2
                go_ret
                exact ⟨ret_bool hans.out.symm, below_chain BE2.out hb3⟩
            · have hof : opOkB o.kind o.nm o.to o.d.n = false := by simpa using hop
              rw [hof] at CO
              have hans : Hid (ans = false) := Lib.hid (by rw [HA.out, hvis.out, hst, hoo, hof]; simp)
              clear hst hoe hoo hop hof hxl
              go_wp2_with fail
              refine (CO.out _).mono ?_
              rintro e1 w2 ⟨rfl, hb2⟩
              go_wp2
              go_ret
              exact ⟨ret_bool hans.out.symm, below_chain BE.out hb2⟩
          · have hans : Hid (ans = true) := Lib.hid (by
              rw [HA.out, hvis.out, List.drop_eq_nil_of_le (by rw [List.length_map, HO.out.len]; omega)]
              rfl)
            go_wp2
            go_ret
            exact ⟨ret_bool hans.out.symm, hbel2.out⟩
  · have hans : Hid (ans = false) := Lib.hid (HOKF.out (by rw [← HT.out]; exact htr))
    have dt : decide (room < (tot : Int)) = true := by simp; omega
    go_enter Try.func49, Try.ntmps49
    go_wp2
    go_region_held3 (fun W => W.cell? ⟨w.heap.size, 0, none⟩ = some (.int .i64 room) ∧ W.cell? ⟨w.heap.size, 1, none⟩ = some (.int .i64 fuse) ∧ W.cell? ⟨w.heap.size, 2, none⟩ = some (.slice A n c) ∧ W.cell? ⟨w.heap.size, 3, none⟩ = some (.slice B m d))
      (first
        | go_keep
        | (exact ⟨(hb1.cell (p := ⟨w.heap.size, 0, none⟩) (by simp)).trans (by simp), (hb1.cell (p := ⟨w.heap.size, 1, none⟩) (by simp)).trans (by simp), (hb1.cell (p := ⟨w.heap.size, 2, none⟩) (by simp)).trans (by simp), (hb1.cell (p := ⟨w.heap.size, 3, none⟩) (by simp)).trans (by simp)⟩))
      (first
        | (go_at_call 53; ((with_reducible refine (CB.out _ (by first | exact (below_a1 _ _).drew | exact below_a1 _ _)).mono ?_)); rintro e1 w1 ⟨rfl, hb1⟩))
    go_wp2
    go_ret
    exact ⟨ret_bool hans.out.symm, by first | exact below_chain (below_a1 w _) hb1 | exact below_chain (below_a1 w _).drew hb1⟩
end Go.Proofs.Ytejibpajjoaldaa
