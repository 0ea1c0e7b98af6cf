/- Words for slices of bytes (plain lemmas over the model; no condition): 'Rd w A n xs': the slice at A of length n reads in w as the bytes xs; what the call itself owns ('ownsRow') reads so; a reading is kept where nothing old is written. // A slice that reads as a list of cells, nil let in, and 'append' of such a slice onto a row of the call's own (after the guide's words for memory); its use for slices of bytes. // Words for slices of bytes, of files and of operations in memory (plain lemmas over the model; no condition): a record bears its own slice of bytes and what that slice holds ('Dat', 'Ent', 'OpE'); 'Row': a slice that reads as a list of cells; 'OwnB': slices of bytes of the call's own, no two in one block. // What a call that makes a new slice of bytes leaves; the row of the table of types for bytes. // Words for slices of edges and of numbers in memory (plain lemmas over the model; no condition): 'SlG': a slice that reads as a list of edges; 'SlI': one that reads as a list of numbers; what is laid record by record. // Words that all texts on lists of records of three numbers share (no condition). // Words for slices of shard edges in memory (plain lemmas over the model; no condition): 'SlK': a slice that reads as a list of records of five numbers; such a list laid record by record; marks in it. // Shards as data: valid ones (plain lemmas; no condition). -/
import Derived.WalkKit
import Derived.WalkSpells
import Derived.Below
import Derived.Laws.OwnMore
import Derived.Deep.AppendLies
import Derived.Deep.Draws
import Derived.Laws.Rows
import Derived.Lib.Hide
import Derived.OpenShut
import Derived.Maps.AppendAt
import Derived.RegionTactic
import Derived.OwnWalk
import Derived.Test.YtpgnappddddlpaaRows
import Derived.Deep.QuietTactic
import Derived.BigQuiet
import Derived.Deep.RegionWith
namespace Go.Proofs.Ytpgnappddddlpaa
open Go.RowKit

def vb (xs : List Nat) : List Value := xs.map fun n : Nat => .int .u8 (n : Int)
theorem vb_length (xs : List Nat) : (vb xs).length = xs.length := by simp [vb]
theorem vb_append (xs ys : List Nat) : vb (xs ++ ys) = vb xs ++ vb ys := by simp [vb]
theorem vb_one (x : Nat) : vb [x] = [.int .u8 (x : Int)] := rfl
theorem vb_get (xs : List Nat) (j : Nat) : (vb xs)[j]? = (xs[j]?).map fun n : Nat => .int .u8 (n : Int) := by simp [vb]
theorem vb_oneCell (xs : List Nat) : ∀ u ∈ vb xs, u.oneCell' = true := by
  intro u hu
  simp only [vb, List.mem_map] at hu
  obtain ⟨n, _, rfl⟩ := hu
  rfl

theorem grownBy_trans {a b c : World} {row : Option Nat} (h : a.grownBy b row) (k : b.grownBy c row) : a.grownBy c row :=
  ⟨k.os.trans h.os, k.tape.trans h.tape, k.output.trans h.output, Nat.le_trans h.size k.size, fun i hi hn => (k.block i (Nat.lt_of_lt_of_le hi h.size) hn).trans (h.block i hi hn)⟩
theorem grownBy_drewN {a w : World} {row : Option Nat} (h : a.grownBy w row) (n : Nat) : a.grownBy (w.drewN n) row := ⟨h.os, h.tape, h.output, h.size, h.block⟩
theorem below_drewN {B : Nat} {a w : World} (h : Below B a w) (n : Nat) : Below B a (w.drewN n) := ⟨h.os, h.tape, h.output, h.size, h.block⟩

/-- The slice value '.slice A n c' reads in w as the bytes xs. -/
structure Rd (w : World) (A : Option Addr) (n : Nat) (xs : List Nat) : Prop where
  len : xs.length = n
  small : ∀ x ∈ xs, x < 256
  lies : 0 < n → ∃ b off, A = some ⟨b, off, none⟩ ∧ b < w.heap.size ∧ ∀ (j : Nat) (x : Nat), xs[j]? = some x → w.cell? ⟨b, off + j, none⟩ = some (.int .u8 (x : Int))

section
variable {w w' : World} {A : Option Addr} {n : Nat} {xs : List Nat}
theorem Rd.at_ {k : Nat} (h : Rd w A n xs) (hk : k < n) : ∃ (b off x : Nat), A = some ⟨b, off, none⟩ ∧ b < w.heap.size ∧ x < 256 ∧ Hid (xs[k]? = some x) ∧ w.cell? ⟨b, off + k, none⟩ = some (.int .u8 (x : Int)) := by
  obtain ⟨b, off, rfl, hb, hc⟩ := h.lies (by omega)
  have hl : k < xs.length := by have := h.len; omega
  exact ⟨b, off, xs[k], rfl, hb, h.small _ (List.getElem_mem hl), List.getElem?_eq_getElem hl, hc k _ (List.getElem?_eq_getElem hl)⟩
theorem Rd.keep (h : Rd w A n xs) (hs : w.heap.size ≤ w'.heap.size) (hk : ∀ p : Addr, p.block < w.heap.size → w'.cell? p = w.cell? p) : Rd w' A n xs :=
  ⟨h.len, h.small, fun hn => by
    obtain ⟨b, off, e, hb, hc⟩ := h.lies hn
    exact ⟨b, off, e, by omega, fun j u hu => (hk _ hb).trans (hc j u hu)⟩⟩
theorem Rd.below (h : Rd w A n xs) (hb : Below w.heap.size w w') : Rd w' A n xs := h.keep hb.size fun _ hp => hb.cell hp
theorem Rd.drewN (h : Rd w A n xs) (k : Nat) : Rd (w.drewN k) A n xs := ⟨h.len, h.small, h.lies⟩
theorem Rd.drew (h : Rd w A n xs) : Rd w.drew A n xs := ⟨h.len, h.small, h.lies⟩
theorem Rd.alloc (h : Rd w A n xs) (o : Obj) : Rd (w.alloc o) A n xs := h.keep (by simp) fun p hp => World.cell?_alloc_lt w o p hp
theorem Rd.nil : Rd w A 0 [] := ⟨rfl, by simp, fun h => absurd h (by omega)⟩
theorem Rd.other {row : Option Nat} (h : Rd w A n xs) (hg : w.grownBy w' row) (hr : ∀ b off sp, A = some ⟨b, off, sp⟩ → some b ≠ row) : Rd w' A n xs :=
  ⟨h.len, h.small, fun hn => by
    obtain ⟨b, off, e, hb, hc⟩ := h.lies hn
    have := hg.size
    exact ⟨b, off, e, by omega, fun j u hu => (World.cell?_of_block (hg.block b hb (hr _ _ _ e))).trans (hc j u hu)⟩⟩
/-- What the call owns reads as its bytes. -/
theorem Rd.of_own {base e c : Nat} (h : w.ownsRow base e 1 (.slice A n c) n (vb xs)) (hs : ∀ x ∈ xs, x < 256) : Rd w A n xs := by
  have hl : xs.length = n := by have := h.1; rw [vb_length] at this; omega
  refine ⟨hl, hs, fun hn => ?_⟩
  obtain ⟨g, cap, hv, _, hlt⟩ := h.form hn
  have hA : A = some ⟨g, 0, none⟩ := by injection hv
  subst hA
  refine ⟨g, 0, rfl, hlt, fun j u hu => ?_⟩
  have := h.cells (g := g) rfl j (.int .u8 (u : Int)) (by rw [vb_get, hu]; rfl)
  have hx : ((⟨g, 0, none⟩ : Addr).add j) = ⟨g, 0 + j, none⟩ := by unfold Addr.add; split <;> simp_all
  rw [hx] at this
  exact this
end

theorem grownBy_of_below {w w' : World} (h : Below w.heap.size w w') (row : Option Nat) : w.grownBy w' row := ⟨h.os, h.tape, h.output, h.size, fun i hi _ => h.block i hi⟩
/-- What is owned stays owned where nothing old is written. -/
theorem own_below {w w' : World} {base e size n : Nat} {v : Value} {xs : List Value} (h : w.ownsRow base e size v n xs) (hb : Below w.heap.size w w') : w'.ownsRow base e size v n xs :=
  h.kept (grownBy_of_below hb none) (by cases v.ownBlock <;> simp)
theorem own_drewN {w : World} {base e size n : Nat} {v : Value} {xs : List Value} (h : w.ownsRow base e size v n xs) (k : Nat) : (w.drewN k).ownsRow base e size v n xs := h
theorem own_cap {w : World} {base e n c : Nat} {A : Option Addr} {xs : List Value} (h : w.ownsRow base e 1 (.slice A n c) n xs) : n ≤ c := by
  rcases h.2 with ⟨h', h0⟩ | ⟨g, cap, _, h', _, _, hc, _⟩
  · omega
  · injection h' with _ _ h3; omega
/-- A row that lay before another was made is not that other one. -/
theorem ne_of_before {w1 w2 : World} {b1 b2 e1 e2 n m c d s1 s2 : Nat} {A B : Option Addr} {xs ys : List Value} (h1 : w1.ownsRow b1 e1 s1 (.slice A n c) n xs) (h2 : w2.ownsRow b2 e2 s2 (.slice B m d) m ys) (hle : w1.heap.size ≤ b2) :
    ∀ b off sp, A = some ⟨b, off, sp⟩ → some b ≠ (Value.slice B m d).ownBlock := by
  rintro b off sp rfl he
  have := (h1.lt b rfl).2
  have := (h2.lt b he.symm).1
  omega
theorem ne_of_after {w1 w2 : World} {b1 b2 e1 e2 n m c d s1 s2 : Nat} {A B : Option Addr} {xs ys : List Value} (h1 : w1.ownsRow b1 e1 s1 (.slice A n c) n xs) (h2 : w2.ownsRow b2 e2 s2 (.slice B m d) m ys) (hle : w2.heap.size ≤ b1) :
    ∀ b off sp, A = some ⟨b, off, sp⟩ → some b ≠ (Value.slice B m d).ownBlock := by
  rintro b off sp rfl he
  have := (h1.lt b rfl).1
  have := (h2.lt b he.symm).2
  omega
/-- The same for what is owned. -/
theorem own_other {w w' : World} {base e size n c : Nat} {A : Option Addr} {xs : List Value} {row : Option Nat} (h : w.ownsRow base e size (.slice A n c) n xs) (hg : w.grownBy w' row) (hr : ∀ b off sp, A = some ⟨b, off, sp⟩ → some b ≠ row) : w'.ownsRow base e size (.slice A n c) n xs := by
  refine h.kept hg ?_
  rcases A with _ | ⟨b, off, sp⟩
  · exact .inl rfl
  · exact .inr (hr b off sp rfl)
theorem below_mark {w wr w' : World} {base e size n c : Nat} {A : Option Addr} {xs : List Value} (hb : Below w.heap.size w wr) (hg : wr.grownBy w' (Value.slice A n c).ownBlock) (ho : wr.ownsRow base e size (.slice A n c) n xs) (hle : w.heap.size ≤ base) : Below w.heap.size w w' :=
  hb.grown hg hb.size (fun k hk => Nat.le_trans hle (ho.lt k hk).1)

/-- What a slice of bytes that came in is told as (the shell's word), read as bytes. -/
def IsRow (k : IntKind) (w : World) (a : Option Addr) (len cap : Nat) (zs : List Int) : Prop :=
  (a = none ∧ len = 0 ∧ cap = 0 ∧ zs = []) ∨
  ∃ x, a = some x ∧ len ≤ cap ∧ cap ≤ maxLen ∧ zs.length = cap ∧ (∀ i, i < zs.length → w.cell? (x.add i) = some (.int k (zs.getD i 0))) ∧ ∀ n ∈ zs, (Lit.int k n).wf = true

theorem IsRow.rd {w : World} {a : Option Addr} {len cap : Nat} {zs : List Int} (h : IsRow .u8 w a len cap zs) : len ≤ cap ∧ cap ≤ maxLen ∧ ∃ xs, Rd w a len xs := by
  rcases h with ⟨rfl, rfl, rfl, rfl⟩ | ⟨x, rfl, hl, hm, hz, hcell, hwz⟩
  · exact ⟨Nat.le_refl _, by unfold maxLen; omega, [], Rd.nil⟩
  · refine ⟨hl, hm, (zs.take len).map Int.toNat, ?_, ?_, ?_⟩
    · simp; omega
    · intro y hy
      simp only [List.mem_map] at hy
      obtain ⟨z, hzm, rfl⟩ := hy
      have := hwz z (List.mem_of_mem_take hzm)
      have := bounds_u8 this
      omega
    · intro hn
      obtain ⟨b, off, spot⟩ := x
      have hc := hcell 0 (by omega)
      have hspot : spot = none := by simpa [Addr.add] using World.cell?_spot hc
      subst hspot
      refine ⟨b, off, rfl, World.block_lt_of_cell? w _ hc, fun j u hu => ?_⟩
      have hj : j < len := by have := (List.getElem?_eq_some_iff.1 hu).1; simp at this; omega
      have h1 := hcell j (by omega)
      have hx : ((⟨b, off, none⟩ : Addr).add j) = ⟨b, off + j, none⟩ := by unfold Addr.add; split <;> simp_all
      rw [hx] at h1
      rw [h1]
      have hjz : j < zs.length := by omega
      have hw := bounds_u8 (hwz _ (List.getElem_mem hjz))
      simp only [List.getElem?_map, List.getElem?_take, if_pos hj, List.getElem?_eq_getElem hjz, Option.map_some, Option.some.injEq] at hu
      simp only [List.getD_eq_getElem?_getD, List.getElem?_eq_getElem hjz, Option.getD_some]
      rw [← hu, Int.toNat_of_nonneg hw.1]
end Go.Proofs.Ytpgnappddddlpaa
namespace Go.Proofs.Ytpgnappddddlpaa
open Go.RowKit

theorem block_of_add (a : Addr) (n : Nat) : (a.add n).block = a.block := by unfold Addr.add; split <;> rfl
theorem add_of_add (a : Addr) (i j : Nat) : (a.add i).add j = a.add (i + j) := by
  unfold Addr.add
  by_cases hi : i = 0 <;> by_cases hj : j = 0 <;> simp [hi, hj, Nat.add_assoc]

def Reads (w : World) (B size : Nat) (A : Option Addr) (n : Nat) (xs : List Value) : Prop :=
  xs.length = n * size ∧ (0 < n → ∃ ad, A = some ad ∧ ad.block < B ∧ ∀ j u, xs[j]? = some u → w.cell? (ad.add j) = some u)

section
variable {w w' : World} {B B' size n : Nat} {A : Option Addr} {xs : List Value}
theorem Reads.none_ : Reads w B size A 0 [] := ⟨by simp, fun h => absurd h (by omega)⟩
theorem Reads.at_ {k : Nat} (h : Reads w B 1 A n xs) (hk : k < n) : ∃ ad u, A = some ad ∧ ad.block < B ∧ xs[k]? = some u ∧ w.cell? (ad.add k) = some u := by
  obtain ⟨ad, e, hb, hc⟩ := h.2 (by omega)
  have hl : k < xs.length := by have := h.1; omega
  exact ⟨ad, xs[k], e, hb, List.getElem?_eq_getElem hl, hc k _ (List.getElem?_eq_getElem hl)⟩
theorem Reads.keep (h : Reads w B size A n xs) (hk : ∀ p : Addr, p.block < B → w'.cell? p = w.cell? p) : Reads w' B size A n xs :=
  ⟨h.1, fun hn => by
    obtain ⟨ad, e, hb, hc⟩ := h.2 hn
    exact ⟨ad, e, hb, fun j u hu => (hk _ (by rw [block_of_add]; exact hb)).trans (hc j u hu)⟩⟩
theorem Reads.more (h : Reads w B size A n xs) (hB : B ≤ B') : Reads w B' size A n xs :=
  ⟨h.1, fun hn => by
    obtain ⟨ad, e, hb, hc⟩ := h.2 hn
    exact ⟨ad, e, by omega, hc⟩⟩
theorem Reads.below (h : Reads w B size A n xs) (hb : Below B w w') : Reads w' B size A n xs := h.keep fun _ hp => hb.cell hp
theorem Reads.drew (h : Reads w B size A n xs) : Reads w.drew B size A n xs := h
theorem Reads.drewN (h : Reads w B size A n xs) (k : Nat) : Reads (w.drewN k) B size A n xs := h
theorem Reads.alloc (h : Reads w B size A n xs) (hB : B ≤ w.heap.size) (o : Obj) : Reads (w.alloc o) B size A n xs := h.keep fun p hp => World.cell?_alloc_lt w o p (by omega)
theorem Reads.setCell (h : Reads w B size A n xs) {p : Addr} (hB : B ≤ p.block) (u : Value) : Reads (w.setCell p u) B size A n xs :=
  h.keep fun q hq => World.cell?_setCell_other w p q u (fun e => by subst e; omega)
theorem Reads.grown (h : Reads w B size A n xs) {row : Option Nat} (hg : w.grownBy w' row) (hB : B ≤ w.heap.size) (hr : ∀ g, row = some g → B ≤ g) : Reads w' B size A n xs :=
  h.keep fun p hp => World.cell?_of_block (hg.block p.block (by omega) (fun e => by have := hr _ e.symm; omega))
theorem Reads.cut (h : Reads w B size A n xs) {k cap : Nat} (hk : k ≤ n) (hc : n ≤ cap) :
    Reads w B size (if cap = k then A else A.map (·.add (k * size))) (n - k) (xs.drop (k * size)) := by
  refine ⟨by rw [List.length_drop, h.1, Nat.sub_mul], fun hn => ?_⟩
  obtain ⟨ad, rfl, hb, hcell⟩ := h.2 (by omega)
  rw [if_neg (by omega)]
  refine ⟨ad.add (k * size), rfl, by rw [block_of_add]; exact hb, fun j u hu => ?_⟩
  rw [add_of_add]
  exact hcell _ u (by rw [← hu, List.getElem?_drop])
theorem Reads.of_own {base : Nat} {e : TypeId} {c : Nat} (h : w.ownsRow base e size (.slice A n c) n xs) : Reads w w.heap.size size A n xs := by
  refine ⟨h.1, fun hn => ?_⟩
  obtain ⟨g, cap, hv, _, hlt⟩ := h.form hn
  have hA : A = some ⟨g, 0, none⟩ := by injection hv
  subst hA
  exact ⟨_, rfl, hlt, h.cells (g := g) rfl⟩
end

section
variable {P : Program} (w : World)

theorem run_append_of_nil (base : Nat) (t ty e : TypeId) (i : TypeInfo) (size : Nat) (ht : P.underlying t = some (.slice e)) (hi : P.info? e = some i)
    (v : Value) (n : Nat) (xs : List Value) (hown : w.ownsRow base e size v n xs) (c : Nat) : (Builtin.append_ #[t, t] ty #[v, .slice none 0 c]).run P w = .ok v w := by
  rcases hown.2 with ⟨rfl, rfl⟩ | ⟨g, cap, cur, rfl, _, _, hnc, _⟩
  · simp [Builtin.append_, run_underlying ht, sizeOf, typeInfo, hi, Builtin.lenOf, Builtin.firstCells]
  · simp [Builtin.append_, run_underlying ht, sizeOf, typeInfo, hi, Builtin.lenOf, Builtin.firstCells, hnc, storeCells]

theorem run_append_any (base : Nat) (t ty e : TypeId) (i : TypeInfo) (z : Value) (size bytes : Nat) (ht : P.underlying t = some (.slice e)) (hi : P.info? e = some i) (hz : i.zero = some z)
    (hsize : i.size = size) (hby : i.bytes = bytes) (hzs : z.cells.size = size) (hsz : 0 < size)
    (v : Value) (n : Nat) (xs : List Value) (hown : w.ownsRow base e size v n xs)
    (B : Nat) (A : Option Addr) (m c : Nat) (news : List Value) (hr : Reads w B size A m news) (h1 : ∀ u ∈ news, u.oneCell' = true)
    (h63 : n + m ≤ maxLen) (hbytes : (n + m) * bytes ≤ 140737488355328) (hbase : base ≤ w.heap.size) :
    ∃ v' w', (Builtin.append_ #[t, t] ty #[v, .slice A m c]).run P w = .ok v' w' ∧ w'.ownsRow base e size v' (n + m) (xs ++ news) ∧ w.grownBy w' v.ownBlock ∧
      (v'.ownBlock = v.ownBlock ∨ v'.ownBlock = some w.heap.size) := by
  rcases A with _ | ad
  · have hm : m = 0 := by
      rcases Nat.eq_zero_or_pos m with h0 | h0
      · exact h0
      · obtain ⟨ad, h, _⟩ := hr.2 h0
        cases h
    subst hm
    have hn : news = [] := List.eq_nil_of_length_eq_zero (by simpa using hr.1)
    subst hn
    exact ⟨v, w, run_append_of_nil w base t ty e i size ht hi v n xs hown c, by simpa using hown, World.grownBy.refl w _, .inl rfl⟩
  · have hcells : ∀ j u, news[j]? = some u → w.cell? (ad.add j) = some u := by
      intro j u hu
      rcases Nat.eq_zero_or_pos m with h0 | h0
      · subst h0
        have hn : news = [] := List.eq_nil_of_length_eq_zero (by simpa using hr.1)
        subst hn
        simp at hu
      · obtain ⟨ad', h, _, hc⟩ := hr.2 h0
        injection h with h
        subst h
        exact hc j u hu
    obtain ⟨v', w', hrun, h2, h3, _, h5⟩ := run_append_own_at (P := P) w base t ty e i z size bytes ht hi hz hsize hby hzs hsz v n xs hown ad m c news hr.1 hcells h1 h63 hbytes hbase
    exact ⟨v', w', hrun, h2, h3, h5⟩

theorem wp_append_any {o : Oper} {a : Act} {K : Act → World → Prop} {Q : Exit → Act → World → Prop} (s x : Operand) (t : TypeId)
    (ho : o.op = .call { callee := .builtin .append, args := #[s, x], argTypes := #[t, t] })
    (base : Nat) (e : TypeId) (i : TypeInfo) (z : Value) (size bytes : Nat) (ht : P.underlying t = some (.slice e)) (hi : P.info? e = some i) (hz : i.zero = some z)
    (hsize : i.size = size) (hby : i.bytes = bytes) (hzs : z.cells.size = size) (hsz : 0 < size)
    (v : Value) (n : Nat) (xs : List Value) (hs : a.eval s = v) (hown : w.ownsRow base e size v n xs)
    (B : Nat) (A : Option Addr) (m c : Nat) (news : List Value) (hx : a.eval x = .slice A m c) (hr : Reads w B size A m news) (h1 : ∀ u ∈ news, u.oneCell' = true)
    (h63 : n + m ≤ maxLen) (hbytes : (n + m) * bytes ≤ 140737488355328) (hbase : base ≤ w.heap.size)
    (h : ∀ v' w', w'.ownsRow base e size v' (n + m) (xs ++ news) → w.grownBy w' v.ownBlock → (v'.ownBlock = v.ownBlock ∨ v'.ownBlock = some w.heap.size) → K (a.put o.dst v') w') : o.wp P a w K Q := by
  obtain ⟨v', w', hrun, h2, h3, h4⟩ := run_append_any (P := P) w base t o.type e i z size bytes ht hi hz hsize hby hzs hsz v n xs hown B A m c news hr h1 h63 hbytes hbase
  unfold Oper.wp execOp
  simp only [ho, resolve, invoke, builtin, Sem.run_bind, Sem.run_pure, Result.andThen_ok, List.map_toArray, List.map_cons, List.map_nil, hs, hx, hrun]
  exact h v' w' h2 h3 h4

theorem wpList_append_any {ops : Array Oper} {rest : List Oper} {o : Oper} {a : Act} {Q : Exit → Act → World → Prop} (hgd : o.guard = none) (s x : Operand) (t : TypeId)
    (ho : o.op = .call { callee := .builtin .append, args := #[s, x], argTypes := #[t, t] })
    (base : Nat) (e : TypeId) (i : TypeInfo) (z : Value) (size bytes : Nat) (ht : P.underlying t = some (.slice e)) (hi : P.info? e = some i) (hz : i.zero = some z)
    (hsize : i.size = size) (hby : i.bytes = bytes) (hzs : z.cells.size = size) (hsz : 0 < size)
    (v : Value) (n : Nat) (xs : List Value) (hs : a.eval s = v) (hown : w.ownsRow base e size v n xs)
    (B : Nat) (A : Option Addr) (m c : Nat) (news : List Value) (hx : a.eval x = .slice A m c) (hr : Reads w B size A m news) (h1 : ∀ u ∈ news, u.oneCell' = true)
    (h63 : n + m ≤ maxLen) (hbytes : (n + m) * bytes ≤ 140737488355328) (hbase : base ≤ w.heap.size)
    (h : ∀ v' w', w'.ownsRow base e size v' (n + m) (xs ++ news) → w.grownBy w' v.ownBlock → (v'.ownBlock = v.ownBlock ∨ v'.ownBlock = some w.heap.size) → wpList P ops Q rest (a.put o.dst v') w') : wpList P ops Q (o :: rest) a w :=
  wpList_plain hgd fun _ hK => wp_append_any w s x t ho base e i z size bytes ht hi hz hsize hby hzs hsz v n xs hs hown B A m c news hx hr h1 h63 hbytes hbase fun v' w' h2 h3 h4 => hK _ _ (h v' w' h2 h3 h4)

theorem step_append_any {ops : Array Oper} {o : Oper} {a : Act} {K : Act → World → Prop} {Q : Exit → Act → World → Prop} {E : Prop} (hgd : o.guard = none) (s x : Operand) (t : TypeId)
    (ho : o.op = .call { callee := .builtin .append, args := #[s, x], argTypes := #[t, t] })
    (base : Nat) (e : TypeId) (i : TypeInfo) (z : Value) (size bytes : Nat) (ht : P.underlying t = some (.slice e)) (hi : P.info? e = some i) (hz : i.zero = some z)
    (hsize : i.size = size) (hby : i.bytes = bytes) (hzs : z.cells.size = size) (hsz : 0 < size)
    (v : Value) (n : Nat) (xs : List Value) (hs : a.eval s = v) (hown : w.ownsRow base e size v n xs)
    (B : Nat) (A : Option Addr) (m c : Nat) (news : List Value) (hx : a.eval x = .slice A m c) (hr : Reads w B size A m news) (h1 : ∀ u ∈ news, u.oneCell' = true)
    (h63 : n + m ≤ maxLen) (hbytes : (n + m) * bytes ≤ 140737488355328) (hbase : base ≤ w.heap.size)
    (h : ∀ v' w', w'.ownsRow base e size v' (n + m) (xs ++ news) → w.grownBy w' v.ownBlock → (v'.ownBlock = v.ownBlock ∨ v'.ownBlock = some w.heap.size) → K (a.put o.dst v') w') :
    if Region.wanted o (yielded ops a.tmps) = true then Oper.wp P o a w K Q else E := by
  have hw : Region.wanted o (yielded ops a.tmps) = true := by simp [Region.wanted, hgd]
  rw [if_pos hw]
  exact wp_append_any w s x t ho base e i z size bytes ht hi hz hsize hby hzs hsz v n xs hs hown B A m c news hx hr h1 h63 hbytes hbase h
end

theorem Rd.reads {w : World} {A : Option Addr} {n : Nat} {xs : List Nat} (h : Rd w A n xs) : Reads w w.heap.size 1 A n (vb xs) := by
  refine ⟨by rw [vb_length, h.len]; omega, fun hn => ?_⟩
  obtain ⟨b, off, rfl, hb, hc⟩ := h.lies hn
  refine ⟨_, rfl, hb, fun j u hu => ?_⟩
  rw [vb_get] at hu
  obtain ⟨x, hx, rfl⟩ := Option.map_eq_some_iff.1 hu
  have hx2 : ((⟨b, off, none⟩ : Addr).add j) = ⟨b, off + j, none⟩ := by unfold Addr.add; split <;> simp_all
  rw [hx2]
  exact hc j x hx
end Go.Proofs.Ytpgnappddddlpaa
namespace Go.Proofs.Ytpgnappddddlpaa
open Go.RowKit

/-- All old cells and all old marks read as before. -/
theorem bcell {W w1 : World} (hb : Below W.heap.size W w1) : (∀ b o, b < W.heap.size → w1.cell? ⟨b, o, none⟩ = W.cell? ⟨b, o, none⟩) ∧ (∀ b o, b < W.heap.size → w1.frozen? ⟨b, o, none⟩ = W.frozen? ⟨b, o, none⟩) :=
  ⟨fun b o h => hb.cell (p := ⟨b, o, none⟩) h, fun b o h => hb.frozen (p := ⟨b, o, none⟩) h⟩
theorem below_a1 (w : World) (o1 : Obj) : Below w.heap.size w (w.alloc o1) := (Below.refl _ _).alloc (Nat.le_refl _) _
theorem below_a2 (w : World) (o1 o2 : Obj) : Below w.heap.size w ((w.alloc o1).alloc o2) := (below_a1 w o1).alloc (by simp) _
theorem below_a3 (w : World) (o1 o2 o3 : Obj) : Below w.heap.size w (((w.alloc o1).alloc o2).alloc o3) := (below_a2 w o1 o2).alloc (by simp; omega) _

/-- Cells of blocks below B alone are written. -/
def Lows (B : Nat) (w w' : World) : Prop := ∀ k, B ≤ k → w'.heap[k]? = w.heap[k]?
theorem Lows.refl (B : Nat) (w : World) : Lows B w w := fun _ _ => rfl
theorem Lows.set {B : Nat} {w w' : World} (h : Lows B w w') {p : Addr} (hp : p.block < B) (u : Value) : Lows B w (w'.setCell p u) :=
  fun k hk => (Below.heap_setCell w' p u k (by omega)).trans (h k hk)

/-- A slice of bytes, and what it holds. -/
structure Dat where
  A : Option Addr
  n : Nat
  c : Nat
  xs : List Nat
def Dat.v (d : Dat) : Value := .slice d.A d.n d.c
structure Dat.Ok (w : World) (d : Dat) : Prop where
  rd : Rd w d.A d.n d.xs
  cap : d.n ≤ d.c
/-- A file. -/
structure Ent where
  nm : ByteArray
  d : Dat
def Ent.cells (e : Ent) : List Value := [.string e.nm, .slice e.d.A e.d.n e.d.c]
def Ent.file (e : Ent) : ByteArray × List Nat := (e.nm, e.d.xs)
/-- An operation. -/
structure OpE where
  kind : Int
  nm : ByteArray
  to : ByteArray
  d : Dat
def OpE.cells (o : OpE) : List Value := [.int .i64 o.kind, .string o.nm, .string o.to, .slice o.d.A o.d.n o.d.c]
def OpE.v (o : OpE) : Value := .agg #[.int .i64 o.kind, .string o.nm, .string o.to, .slice o.d.A o.d.n o.d.c]
def OpE.op (o : OpE) : Int × ByteArray × ByteArray × List Nat := (o.kind, o.nm, o.to, o.d.xs)
theorem Ent.cells_len (e : Ent) : e.cells.length = 2 := rfl
theorem OpE.cells_len (o : OpE) : o.cells.length = 4 := rfl

section
variable {w w' : World} {d : Dat}
theorem Dat.Ok.keep (h : d.Ok w) (hs : w.heap.size ≤ w'.heap.size) (hk : ∀ k, k < w.heap.size → w'.heap[k]? = w.heap[k]?) : d.Ok w' :=
  ⟨h.rd.keep hs fun p hp => World.cell?_of_block (hk p.block hp), h.cap⟩
theorem Dat.Ok.below (h : d.Ok w) (hb : Below w.heap.size w w') : d.Ok w' := h.keep hb.size hb.block
theorem Dat.Ok.drewN (h : d.Ok w) (k : Nat) : d.Ok (w.drewN k) := ⟨h.rd.drewN k, h.cap⟩
theorem Dat.Ok.alloc (h : d.Ok w) (o : Obj) : d.Ok (w.alloc o) := ⟨h.rd.alloc o, h.cap⟩
end

/-! ### cells one behind the other -/
theorem flat_len {α : Type} (f : α → List Value) (k : Nat) (hf : ∀ a, (f a).length = k) (es : List α) : (es.flatMap f).length = es.length * k := by
  induction es with
  | nil => simp
  | cons a r ih => rw [List.flatMap_cons, List.length_append, hf, ih, List.length_cons, Nat.add_mul, Nat.one_mul, Nat.add_comm]
theorem flat_get {α : Type} (f : α → List Value) (k : Nat) (hf : ∀ a, (f a).length = k) : ∀ (es : List α) (j i : Nat) (e : α), es[j]? = some e → i < k → (es.flatMap f)[j * k + i]? = (f e)[i]?
  | [], j, i, e, he, _ => by simp at he
  | a :: r, 0, i, e, he, hi => by
    simp at he
    subst he
    rw [List.flatMap_cons, Nat.zero_mul, Nat.zero_add, List.getElem?_append_left (by rw [hf]; exact hi)]
  | a :: r, j + 1, i, e, he, hi => by
    have he2 : r[j]? = some e := by simpa using he
    rw [List.flatMap_cons, List.getElem?_append_right (by rw [hf, Nat.add_mul]; omega), hf, Nat.add_mul, Nat.one_mul, show j * k + k + i - k = j * k + i by omega]
    exact flat_get f k hf r j i e he2 hi
theorem flat_set {α : Type} (f : α → List Value) (k : Nat) (hf : ∀ a, (f a).length = k) : ∀ (es : List α) (j i : Nat) (e e' : α) (u : Value), es[j]? = some e → i < k → f e' = (f e).set i u → (es.flatMap f).set (j * k + i) u = (es.set j e').flatMap f
  | [], j, i, e, _, _, he, _, _ => by simp at he
  | a :: r, 0, i, e, e', u, he, hi, h => by
    simp at he
    subst he
    rw [List.flatMap_cons, Nat.zero_mul, Nat.zero_add, List.set_append_left _ _ (by rw [hf]; exact hi), ← h, List.set_cons_zero, List.flatMap_cons]
  | a :: r, j + 1, i, e, e', u, he, hi, h => by
    have he2 : r[j]? = some e := by simpa using he
    rw [List.flatMap_cons, List.set_append_right _ _ (by rw [hf, Nat.add_mul]; omega), hf, Nat.add_mul, Nat.one_mul, show j * k + k + i - k = j * k + i by omega, flat_set f k hf r j i e e' u he2 hi h, List.set_cons_succ, List.flatMap_cons]
theorem flat_snoc {α : Type} (f : α → List Value) (es : List α) (e : α) : (es ++ [e]).flatMap f = es.flatMap f ++ f e := by simp

/-- The slice at A of n records of k cells each reads as the cells cs. -/
structure Row (w : World) (k : Nat) (A : Option Addr) (n : Nat) (cs : List Value) : Prop where
  len : cs.length = n * k
  lies : 0 < n → ∃ b off, A = some ⟨b, off, none⟩ ∧ b < w.heap.size ∧ ∀ (j : Nat) (u : Value), cs[j]? = some u → w.cell? ⟨b, off + j, none⟩ = some u

section
variable {w w' : World} {k n : Nat} {A : Option Addr} {cs : List Value}
theorem Row.keep (h : Row w k A n cs) (hs : w.heap.size ≤ w'.heap.size) (hk : ∀ i, i < w.heap.size → w'.heap[i]? = w.heap[i]?) : Row w' k A n cs :=
  ⟨h.len, fun hn => by
    obtain ⟨b, off, e, hb, hc⟩ := h.lies hn
    exact ⟨b, off, e, by omega, fun j u hu => (World.cell?_of_block (a := ⟨b, off + j, none⟩) (hk b hb)).trans (hc j u hu)⟩⟩
theorem Row.below (h : Row w k A n cs) (hb : Below w.heap.size w w') : Row w' k A n cs := h.keep hb.size hb.block
theorem Row.drewN (h : Row w k A n cs) (m : Nat) : Row (w.drewN m) k A n cs := ⟨h.len, h.lies⟩
theorem Row.alloc (h : Row w k A n cs) (o : Obj) : Row (w.alloc o) k A n cs := h.keep (by simp) fun i hi => Below.heap_alloc w o i hi
theorem Row.nil : Row w k A 0 [] := ⟨by simp, fun h => absurd h (by omega)⟩
theorem Row.reads (h : Row w k A n cs) : Reads w w.heap.size k A n cs :=
  ⟨h.len, fun hn => by
    obtain ⟨b, off, rfl, hb, hc⟩ := h.lies hn
    refine ⟨_, rfl, hb, fun j u hu => ?_⟩
    have hx2 : ((⟨b, off, none⟩ : Addr).add j) = ⟨b, off + j, none⟩ := by unfold Addr.add; split <;> simp_all
    rw [hx2]
    exact hc j u hu⟩
theorem Row.of_own {base e c : Nat} (h : w.ownsRow base e k (.slice A n c) n cs) : Row w k A n cs := by
  refine ⟨h.1, fun hn => ?_⟩
  obtain ⟨g, cap, hv, _, hlt⟩ := h.form hn
  have hA : A = some ⟨g, 0, none⟩ := by injection hv
  subst hA
  refine ⟨g, 0, rfl, hlt, fun j u hu => ?_⟩
  have := h.cells (g := g) rfl j u hu
  have hx : ((⟨g, 0, none⟩ : Addr).add j) = ⟨g, 0 + j, none⟩ := by unfold Addr.add; split <;> simp_all
  rw [hx] at this
  exact this
end

/-- A slice of files, a slice of operations, in memory. -/
structure SlF (w : World) (A : Option Addr) (n : Nat) (es : List Ent) : Prop where
  len : es.length = n
  row : Row w 2 A n (es.flatMap Ent.cells)
  each : ∀ e ∈ es, e.d.Ok w
structure SlO (w : World) (A : Option Addr) (n : Nat) (os : List OpE) : Prop where
  len : os.length = n
  row : Row w 4 A n (os.flatMap OpE.cells)
  each : ∀ o ∈ os, o.d.Ok w

section
variable {w w' : World} {n : Nat} {A : Option Addr} {es : List Ent} {os : List OpE}
theorem SlF.keep (h : SlF w A n es) (hs : w.heap.size ≤ w'.heap.size) (hk : ∀ i, i < w.heap.size → w'.heap[i]? = w.heap[i]?) : SlF w' A n es :=
  ⟨h.len, h.row.keep hs hk, fun e he => (h.each e he).keep hs hk⟩
theorem SlF.below (h : SlF w A n es) (hb : Below w.heap.size w w') : SlF w' A n es := h.keep hb.size hb.block
theorem SlF.drewN (h : SlF w A n es) (m : Nat) : SlF (w.drewN m) A n es := ⟨h.len, h.row.drewN m, fun e he => (h.each e he).drewN m⟩
theorem SlF.nil : SlF w A 0 [] := ⟨rfl, Row.nil, by simp⟩
theorem SlO.keep (h : SlO w A n os) (hs : w.heap.size ≤ w'.heap.size) (hk : ∀ i, i < w.heap.size → w'.heap[i]? = w.heap[i]?) : SlO w' A n os :=
  ⟨h.len, h.row.keep hs hk, fun e he => (h.each e he).keep hs hk⟩
theorem SlO.below (h : SlO w A n os) (hb : Below w.heap.size w w') : SlO w' A n os := h.keep hb.size hb.block
theorem SlO.drewN (h : SlO w A n os) (m : Nat) : SlO (w.drewN m) A n os := ⟨h.len, h.row.drewN m, fun e he => (h.each e he).drewN m⟩
theorem SlO.nil : SlO w A 0 [] := ⟨rfl, Row.nil, by simp⟩
/-- The file at place j, its two cells. -/
theorem SlF.at_ {j : Nat} (h : SlF w A n es) (hj : j < n) : ∃ (b off : Nat) (e : Ent), A = some ⟨b, off, none⟩ ∧ b < w.heap.size ∧ Hid (es[j]? = some e) ∧ Hid (e.d.Ok w) ∧
    w.cell? ⟨b, off + j * 2, none⟩ = some (.string e.nm) ∧ w.cell? ⟨b, off + j * 2 + 1, none⟩ = some (.slice e.d.A e.d.n e.d.c) := by
  obtain ⟨b, off, rfl, hb, hc⟩ := h.row.lies (by omega)
  have hl : j < es.length := by have := h.len; omega
  have he : es[j]? = some es[j] := List.getElem?_eq_getElem hl
  refine ⟨b, off, es[j], rfl, hb, he, h.each _ (List.getElem_mem hl), ?_, ?_⟩
  · exact hc (j * 2) _ (flat_get Ent.cells 2 Ent.cells_len es j 0 _ he (by omega))
  · exact hc (j * 2 + 1) _ (flat_get Ent.cells 2 Ent.cells_len es j 1 _ he (by omega))
theorem SlO.at_ {j : Nat} (h : SlO w A n os) (hj : j < n) : ∃ (b off : Nat) (o : OpE), A = some ⟨b, off, none⟩ ∧ b < w.heap.size ∧ Hid (os[j]? = some o) ∧ Hid (o.d.Ok w) ∧
    w.cell? ⟨b, off + j * 4, none⟩ = some (.int .i64 o.kind) ∧ w.cell? ⟨b, off + j * 4 + 1, none⟩ = some (.string o.nm) ∧ w.cell? ⟨b, off + j * 4 + 2, none⟩ = some (.string o.to) ∧ w.cell? ⟨b, off + j * 4 + 3, none⟩ = some (.slice o.d.A o.d.n o.d.c) := by
  obtain ⟨b, off, rfl, hb, hc⟩ := h.row.lies (by omega)
  have hl : j < os.length := by have := h.len; omega
  have he : os[j]? = some os[j] := List.getElem?_eq_getElem hl
  refine ⟨b, off, os[j], rfl, hb, he, h.each _ (List.getElem_mem hl), ?_, ?_, ?_, ?_⟩
  · exact hc (j * 4) _ (flat_get OpE.cells 4 OpE.cells_len os j 0 _ he (by omega))
  · exact hc (j * 4 + 1) _ (flat_get OpE.cells 4 OpE.cells_len os j 1 _ he (by omega))
  · exact hc (j * 4 + 2) _ (flat_get OpE.cells 4 OpE.cells_len os j 2 _ he (by omega))
  · exact hc (j * 4 + 3) _ (flat_get OpE.cells 4 OpE.cells_len os j 3 _ he (by omega))
end
end Go.Proofs.Ytpgnappddddlpaa
namespace Go.Proofs.Ytpgnappddddlpaa
open Go.RowKit

theorem Try.infoByte : (Try.prog.info? 5).map (fun i => (i.zero, i.size, i.bytes)) = some (some (.int .u8 0), 1, 1) := by kernel_rfl

/-- What a call that makes a new slice of bytes leaves. -/
def Made (w : World) (n : Nat) (xs : List Nat) (e : Ending) (w' : World) : Prop :=
  ∃ A c, e = .returned (.slice A n c) ∧ w'.ownsRow w.heap.size 5 1 (.slice A n c) n (vb xs) ∧ Below w.heap.size w w'
end Go.Proofs.Ytpgnappddddlpaa
namespace Go.Proofs.Ytpgnappddddlpaa
open Go.RowKit

structure GE where
  f : Int
  t : Int
  w : Int
def GE.cells (e : GE) : List Value := [.int .i64 e.f, .int .i64 e.t, .int .i64 e.w]
def GE.v (e : GE) : Value := .agg #[.int .i64 e.f, .int .i64 e.t, .int .i64 e.w]
theorem GE.cells_len (e : GE) : e.cells.length = 3 := rfl
theorem GE.cells_one (e : GE) : ∀ u ∈ e.cells, u.oneCell' = true := by
  intro u hu
  simp [GE.cells] at hu
  rcases hu with rfl | rfl | rfl <;> rfl
theorem edges_one (es : List GE) : ∀ u ∈ es.flatMap GE.cells, u.oneCell' = true := fun u hu => by
  obtain ⟨e, _, he⟩ := List.mem_flatMap.1 hu
  exact e.cells_one u he

/-- A slice of edges in memory. -/
structure SlG (w : World) (A : Option Addr) (n : Nat) (es : List GE) : Prop where
  len : es.length = n
  row : Row w 3 A n (es.flatMap GE.cells)
/-- A slice of numbers in memory. -/
def vi (xs : List Int) : List Value := xs.map (.int .i64)
theorem vi_len (xs : List Int) : (vi xs).length = xs.length := by simp [vi]
theorem vi_get (xs : List Int) (j : Nat) : (vi xs)[j]? = (xs[j]?).map (.int .i64) := by simp [vi]
theorem vi_append (xs ys : List Int) : vi (xs ++ ys) = vi xs ++ vi ys := by simp [vi]
theorem vi_one (xs : List Int) : ∀ u ∈ vi xs, u.oneCell' = true := by
  intro u hu
  simp only [vi, List.mem_map] at hu
  obtain ⟨n, _, rfl⟩ := hu
  rfl
structure SlI (w : World) (A : Option Addr) (n : Nat) (xs : List Int) : Prop where
  len : xs.length = n
  row : Row w 1 A n (vi xs)
section
variable {w w' : World} {n c lo e : Nat} {A : Option Addr} {es : List GE} {xs : List Int}
theorem SlG.keep (h : SlG w A n es) (hs : w.heap.size ≤ w'.heap.size) (hk : ∀ i, i < w.heap.size → w'.heap[i]? = w.heap[i]?) : SlG w' A n es := ⟨h.len, h.row.keep hs hk⟩
theorem SlG.below (h : SlG w A n es) (hb : Below w.heap.size w w') : SlG w' A n es := h.keep hb.size hb.block
theorem SlG.drewN (h : SlG w A n es) (m : Nat) : SlG (w.drewN m) A n es := ⟨h.len, h.row.drewN m⟩
theorem SlG.nil : SlG w A 0 [] := ⟨rfl, Row.nil⟩
theorem SlI.keep (h : SlI w A n xs) (hs : w.heap.size ≤ w'.heap.size) (hk : ∀ i, i < w.heap.size → w'.heap[i]? = w.heap[i]?) : SlI w' A n xs := ⟨h.len, h.row.keep hs hk⟩
theorem SlI.below (h : SlI w A n xs) (hb : Below w.heap.size w w') : SlI w' A n xs := h.keep hb.size hb.block
theorem SlI.drewN (h : SlI w A n xs) (m : Nat) : SlI (w.drewN m) A n xs := ⟨h.len, h.row.drewN m⟩
theorem SlI.nil : SlI w A 0 [] := ⟨rfl, Row.nil⟩
/-- The edge at place j, its three cells. -/
theorem SlG.at_ {j : Nat} (h : SlG w A n es) (hj : j < n) : ∃ (b off : Nat) (e : GE), A = some ⟨b, off, none⟩ ∧ b < w.heap.size ∧ Hid (es[j]? = some e) ∧
    w.cell? ⟨b, off + j * 3, none⟩ = some (.int .i64 e.f) ∧ w.cell? ⟨b, off + j * 3 + 1, none⟩ = some (.int .i64 e.t) ∧ w.cell? ⟨b, off + j * 3 + 2, none⟩ = some (.int .i64 e.w) := by
  obtain ⟨b, off, rfl, hb, hc⟩ := h.row.lies (by omega)
  have hl : j < es.length := by have := h.len; omega
  have he : es[j]? = some es[j] := List.getElem?_eq_getElem hl
  refine ⟨b, off, es[j], rfl, hb, he, ?_, ?_, ?_⟩
  · exact hc (j * 3) _ (flat_get GE.cells 3 GE.cells_len es j 0 _ he (by omega))
  · exact hc (j * 3 + 1) _ (flat_get GE.cells 3 GE.cells_len es j 1 _ he (by omega))
  · exact hc (j * 3 + 2) _ (flat_get GE.cells 3 GE.cells_len es j 2 _ he (by omega))
theorem SlI.at_ {j : Nat} (h : SlI w A n xs) (hj : j < n) : ∃ (b off : Nat) (x : Int), A = some ⟨b, off, none⟩ ∧ b < w.heap.size ∧ Hid (xs[j]? = some x) ∧ w.cell? ⟨b, off + j, none⟩ = some (.int .i64 x) := by
  obtain ⟨b, off, rfl, hb, hc⟩ := h.row.lies (by omega)
  have hl : j < xs.length := by have := h.len; omega
  have he : xs[j]? = some xs[j] := List.getElem?_eq_getElem hl
  exact ⟨b, off, xs[j], rfl, hb, he, hc j _ (by rw [vi_get, he]; rfl)⟩
theorem SlG.of_own (h : w.ownsRow lo e 3 (.slice A n c) n (es.flatMap GE.cells)) (hl : es.length = n) : SlG w A n es := ⟨hl, Row.of_own h⟩
theorem SlI.of_own (h : w.ownsRow lo e 1 (.slice A n c) n (vi xs)) : SlI w A n xs := ⟨by have := h.1; rw [vi_len] at this; omega, Row.of_own h⟩
end
theorem g_chain {w W W' : World} (h : Below w.heap.size w W) (k : Below W.heap.size W W') : Below w.heap.size w W' := h.trans (k.mono h.size)

/-! ### a row that is laid record by record -/
theorem g_rep {α : Type} (f : α → List Value) (z : α) (k : Nat) (hf : ∀ a, (f a).length = k) (hk : 0 < k) (cs : Array Value) (h : cs.toList = f z) (n : Nat) : (madeCells cs (n * k)).toList = (List.replicate n z).flatMap f := by
  have hs : cs.size = k := by rw [← Array.length_toList, h, hf]
  apply List.ext_getElem?
  intro i
  by_cases hi : i < n * k
  · have hj : i / k < n := Nat.div_lt_of_lt_mul (by rw [Nat.mul_comm]; exact hi)
    have hr : i % k < k := Nat.mod_lt _ hk
    have e := flat_get f k hf (List.replicate n z) (i / k) (i % k) z (by simp [hj]) hr
    rw [show i / k * k + i % k = i by rw [Nat.mul_comm]; exact Nat.div_add_mod i k] at e
    rw [e]
    simp only [madeCells, Array.toList_map, Array.toList_range, List.getElem?_map, List.getElem?_range hi, Option.map_some, hs]
    rw [← h, Array.getElem?_toList, getElem!_pos cs (i % k) (by omega), Array.getElem?_eq_getElem (by omega)]
  · rw [List.getElem?_eq_none (by simp [madeCells]; omega), List.getElem?_eq_none (by rw [flat_len f k hf]; simp; omega)]
theorem g_take {α : Type} (es : List α) (k : Nat) (e : α) (h : es[k]? = some e) : es.take (k + 1) = es.take k ++ [e] := by
  obtain ⟨hk, rfl⟩ := List.getElem?_eq_some_iff.1 h
  exact List.take_succ_eq_append_getElem hk
theorem g_drop {α : Type} (es : List α) (k : Nat) (e : α) (h : es[k]? = some e) : es.drop k = e :: es.drop (k + 1) := by
  obtain ⟨hk, rfl⟩ := List.getElem?_eq_some_iff.1 h
  exact List.drop_eq_getElem_cons hk
theorem g_set {α : Type} (made rest : List α) (x y : α) (k : Nat) (hm : made.length = k) : (made ++ x :: rest).set k y = made ++ y :: rest := by
  rw [List.set_append_right _ _ (by omega), hm, Nat.sub_self]
  rfl
theorem g_get {α : Type} (made rest : List α) (x : α) (k : Nat) (hm : made.length = k) : (made ++ x :: rest)[k]? = some x := by
  simp [hm]
theorem g_own_at {w : World} {lo t size n c : Nat} {A : Option Addr} {cs : List Value} (h : w.ownsRow lo t size (.slice A n c) n cs) (hn : 0 < n) : ∃ g, A = some ⟨g, 0, none⟩ := by
  obtain ⟨g, cap, hv, _⟩ := h.form hn
  injection hv with hv
  exact ⟨g, hv⟩
/-- Three cells of one edge stored. -/
theorem g_lay {w : World} {lo ty g c n k : Nat} {made rest : List GE} {x e : GE} (h : w.ownsRow lo ty 3 (.slice (some ⟨g, 0, none⟩) n c) n ((made ++ x :: rest).flatMap GE.cells)) (hm : made.length = k) :
    (((w.setCell ⟨g, k * 3, none⟩ (.int .i64 e.f)).setCell ⟨g, k * 3 + 1, none⟩ (.int .i64 e.t)).setCell ⟨g, k * 3 + 2, none⟩ (.int .i64 e.w)).ownsRow lo ty 3 (.slice (some ⟨g, 0, none⟩) n c) n ((made ++ e :: rest).flatMap GE.cells) ∧
      w.grownBy (((w.setCell ⟨g, k * 3, none⟩ (.int .i64 e.f)).setCell ⟨g, k * 3 + 1, none⟩ (.int .i64 e.t)).setCell ⟨g, k * 3 + 2, none⟩ (.int .i64 e.w)) (some g) := by
  have h1 := h.stored (k * 3) (.int .i64 e.f)
  have h2 := h1.1.stored (k * 3 + 1) (.int .i64 e.t)
  have h3 := h2.1.stored (k * 3 + 2) (.int .i64 e.w)
  have e1 := flat_set GE.cells 3 GE.cells_len (made ++ x :: rest) k 0 x ⟨e.f, x.t, x.w⟩ (.int .i64 e.f) (g_get _ _ _ _ hm) (by omega) rfl
  rw [Nat.add_zero, g_set _ _ _ _ _ hm] at e1
  have e2 := flat_set GE.cells 3 GE.cells_len (made ++ ⟨e.f, x.t, x.w⟩ :: rest) k 1 ⟨e.f, x.t, x.w⟩ ⟨e.f, e.t, x.w⟩ (.int .i64 e.t) (g_get _ _ _ _ hm) (by omega) rfl
  rw [g_set _ _ _ _ _ hm] at e2
  have e3 := flat_set GE.cells 3 GE.cells_len (made ++ ⟨e.f, e.t, x.w⟩ :: rest) k 2 ⟨e.f, e.t, x.w⟩ e (.int .i64 e.w) (g_get _ _ _ _ hm) (by omega) rfl
  rw [g_set _ _ _ _ _ hm] at e3
  rw [e1, e2, e3] at h3
  exact ⟨h3.1, (h1.2.trans h2.2).trans h3.2⟩
end Go.Proofs.Ytpgnappddddlpaa
namespace Go.Proofs.Ytpgnappddddlpaa
open Go.RowKit

theorem Try.infoInt : (Try.prog.info? 3).map (fun i => (i.zero, i.size, i.bytes)) = some (some (.int .i64 0), 1, 8) := by kernel_rfl

def GNum (w : World) (b : Int) (e : Ending) (w' : World) : Prop := e = .returned (.int .i64 b) ∧ Below w.heap.size w w'
def GTell (w : World) (b : Bool) (e : Ending) (w' : World) : Prop := e = .returned (.bool b) ∧ Below w.heap.size w w'
def leftG (left : Int) (n : Nat) : Int := if (n : Int) ≤ left then left - n else -1
theorem leftG_pos {left : Int} {n : Nat} (h : (n : Int) ≤ left) : leftG left n = left - n := if_pos h
theorem leftG_neg {left : Int} {n : Nat} (h : left < (n : Int)) : leftG left n = -1 := if_neg (by omega)
theorem g_int {k : IntKind} {a b : Int} (h : a = b) : Ending.returned (.int k a) = .returned (.int k b) := by rw [h]
theorem g_bool {a b : Bool} (h : a = b) : Ending.returned (.bool a) = .returned (.bool b) := by rw [h]

def zeroG : GE := ⟨0, 0, 0⟩
theorem rep_succ (n k : Nat) (h : k < n) : List.replicate (n - k) zeroG = zeroG :: List.replicate (n - (k + 1)) zeroG := by
  rw [show n - k = (n - (k + 1)) + 1 by omega, List.replicate_succ]

theorem own_lowG {w : World} {lo e size n : Nat} {v : Value} {xs : List Value} (h : w.ownsRow lo e size v n xs) {p : Addr} (hp : p.block < lo) (u : Value) : (w.setCell p u).ownsRow lo e size v n xs := by
  obtain ⟨h1, h2⟩ := h
  refine ⟨h1, ?_⟩
  rcases h2 with h2 | ⟨g, cap, cur, e, hb, hg, r⟩
  · exact .inl h2
  · exact .inr ⟨g, cap, cur, e, hb, (Below.heap_setCell w p u g (by omega)).trans hg, r⟩
theorem own_monoG {w : World} {lo lo' e size n : Nat} {v : Value} {xs : List Value} (h : w.ownsRow lo e size v n xs) (hl : lo' ≤ lo) : w.ownsRow lo' e size v n xs := by
  obtain ⟨h1, h2⟩ := h
  refine ⟨h1, ?_⟩
  rcases h2 with h2 | ⟨g, cap, cur, e, hb, r⟩
  · exact .inl h2
  · exact .inr ⟨g, cap, cur, e, by omega, r⟩

end Go.Proofs.Ytpgnappddddlpaa
namespace Go.Proofs.Ytpgnappddddlpaa
open Go.RowKit

structure KE where
  f : Int
  t : Int
  w : Int
  i : Int
  v : Int
def KE.cells (e : KE) : List Value := [.int .i64 e.f, .int .i64 e.t, .int .i64 e.w, .int .i64 e.i, .int .i64 e.v]
theorem KE.cells_len (e : KE) : e.cells.length = 5 := rfl
theorem KE.cells_one (e : KE) : ∀ u ∈ e.cells, u.oneCell' = true := by
  intro u hu
  simp [KE.cells] at hu
  rcases hu with rfl | rfl | rfl | rfl | rfl <;> rfl
theorem ke_one (es : List KE) : ∀ u ∈ es.flatMap KE.cells, u.oneCell' = true := fun u hu => by
  obtain ⟨e, _, he⟩ := List.mem_flatMap.1 hu
  exact e.cells_one u he

/-- A slice of shard edges in memory. -/
structure SlK (w : World) (A : Option Addr) (n : Nat) (es : List KE) : Prop where
  len : es.length = n
  row : Row w 5 A n (es.flatMap KE.cells)
section
variable {w w' : World} {n c lo e : Nat} {A : Option Addr} {es : List KE}
theorem SlK.keep (h : SlK w A n es) (hs : w.heap.size ≤ w'.heap.size) (hk : ∀ i, i < w.heap.size → w'.heap[i]? = w.heap[i]?) : SlK w' A n es := ⟨h.len, h.row.keep hs hk⟩
theorem SlK.below (h : SlK w A n es) (hb : Below w.heap.size w w') : SlK w' A n es := h.keep hb.size hb.block
theorem SlK.drewN (h : SlK w A n es) (m : Nat) : SlK (w.drewN m) A n es := ⟨h.len, h.row.drewN m⟩
theorem SlK.nil : SlK w A 0 [] := ⟨rfl, Row.nil⟩
/-- The edge at place j, its five cells. -/
theorem SlK.at_ {j : Nat} (h : SlK w A n es) (hj : j < n) : ∃ (b off : Nat) (e : KE), A = some ⟨b, off, none⟩ ∧ b < w.heap.size ∧ Hid (es[j]? = some e) ∧
    w.cell? ⟨b, off + j * 5, none⟩ = some (.int .i64 e.f) ∧ w.cell? ⟨b, off + j * 5 + 1, none⟩ = some (.int .i64 e.t) ∧ w.cell? ⟨b, off + j * 5 + 2, none⟩ = some (.int .i64 e.w) ∧
    w.cell? ⟨b, off + j * 5 + 3, none⟩ = some (.int .i64 e.i) ∧ w.cell? ⟨b, off + j * 5 + 4, none⟩ = some (.int .i64 e.v) := by
  obtain ⟨b, off, rfl, hb, hc⟩ := h.row.lies (by omega)
  have hl : j < es.length := by have := h.len; omega
  have he : es[j]? = some es[j] := List.getElem?_eq_getElem hl
  refine ⟨b, off, es[j], rfl, hb, he, ?_, ?_, ?_, ?_, ?_⟩
  · exact hc (j * 5) _ (flat_get KE.cells 5 KE.cells_len es j 0 _ he (by omega))
  · exact hc (j * 5 + 1) _ (flat_get KE.cells 5 KE.cells_len es j 1 _ he (by omega))
  · exact hc (j * 5 + 2) _ (flat_get KE.cells 5 KE.cells_len es j 2 _ he (by omega))
  · exact hc (j * 5 + 3) _ (flat_get KE.cells 5 KE.cells_len es j 3 _ he (by omega))
  · exact hc (j * 5 + 4) _ (flat_get KE.cells 5 KE.cells_len es j 4 _ he (by omega))
theorem SlK.of_own (h : w.ownsRow lo e 5 (.slice A n c) n (es.flatMap KE.cells)) (hl : es.length = n) : SlK w A n es := ⟨hl, Row.of_own h⟩
end
/-- Five cells of one edge stored. -/
def lay5 (w : World) (g q : Nat) (e : KE) : World := ((((w.setCell ⟨g, q, none⟩ (.int .i64 e.f)).setCell ⟨g, q + 1, none⟩ (.int .i64 e.t)).setCell ⟨g, q + 2, none⟩ (.int .i64 e.w)).setCell ⟨g, q + 3, none⟩ (.int .i64 e.i)).setCell ⟨g, q + 4, none⟩ (.int .i64 e.v)
theorem k_lay {w : World} {lo ty g c n k : Nat} {made rest : List KE} {x e : KE} (h : w.ownsRow lo ty 5 (.slice (some ⟨g, 0, none⟩) n c) n ((made ++ x :: rest).flatMap KE.cells)) (hm : made.length = k) :
    (lay5 w g (k * 5) e).ownsRow lo ty 5 (.slice (some ⟨g, 0, none⟩) n c) n ((made ++ e :: rest).flatMap KE.cells) ∧ w.grownBy (lay5 w g (k * 5) e) (some g) := by
  have h1 := h.stored (k * 5) (.int .i64 e.f)
  have h2 := h1.1.stored (k * 5 + 1) (.int .i64 e.t)
  have h3 := h2.1.stored (k * 5 + 2) (.int .i64 e.w)
  have h4 := h3.1.stored (k * 5 + 3) (.int .i64 e.i)
  have h5 := h4.1.stored (k * 5 + 4) (.int .i64 e.v)
  have e1 := flat_set KE.cells 5 KE.cells_len (made ++ x :: rest) k 0 x ⟨e.f, x.t, x.w, x.i, x.v⟩ (.int .i64 e.f) (g_get _ _ _ _ hm) (by omega) rfl
  rw [Nat.add_zero, g_set _ _ _ _ _ hm] at e1
  have e2 := flat_set KE.cells 5 KE.cells_len (made ++ ⟨e.f, x.t, x.w, x.i, x.v⟩ :: rest) k 1 ⟨e.f, x.t, x.w, x.i, x.v⟩ ⟨e.f, e.t, x.w, x.i, x.v⟩ (.int .i64 e.t) (g_get _ _ _ _ hm) (by omega) rfl
  rw [g_set _ _ _ _ _ hm] at e2
  have e3 := flat_set KE.cells 5 KE.cells_len (made ++ ⟨e.f, e.t, x.w, x.i, x.v⟩ :: rest) k 2 ⟨e.f, e.t, x.w, x.i, x.v⟩ ⟨e.f, e.t, e.w, x.i, x.v⟩ (.int .i64 e.w) (g_get _ _ _ _ hm) (by omega) rfl
  rw [g_set _ _ _ _ _ hm] at e3
  have e4 := flat_set KE.cells 5 KE.cells_len (made ++ ⟨e.f, e.t, e.w, x.i, x.v⟩ :: rest) k 3 ⟨e.f, e.t, e.w, x.i, x.v⟩ ⟨e.f, e.t, e.w, e.i, x.v⟩ (.int .i64 e.i) (g_get _ _ _ _ hm) (by omega) rfl
  rw [g_set _ _ _ _ _ hm] at e4
  have e5 := flat_set KE.cells 5 KE.cells_len (made ++ ⟨e.f, e.t, e.w, e.i, x.v⟩ :: rest) k 4 ⟨e.f, e.t, e.w, e.i, x.v⟩ e (.int .i64 e.v) (g_get _ _ _ _ hm) (by omega) rfl
  rw [g_set _ _ _ _ _ hm] at e5
  rw [e1, e2, e3, e4, e5] at h5
  exact ⟨h5.1, (((h1.2.trans h2.2).trans h3.2).trans h4.2).trans h5.2⟩
def zero5 : KE := ⟨0, 0, 0, 0, 0⟩
theorem rep5_succ (n k : Nat) (h : k < n) : List.replicate (n - k) zero5 = zero5 :: List.replicate (n - (k + 1)) zero5 := by
  rw [show n - k = (n - (k + 1)) + 1 by omega, List.replicate_succ]

/-! ### marks -/
def mark5 (k : Nat) : List KE → List KE
  | [] => []
  | _ :: r => ⟨k, k + 1, k + 2, k + 3, k + 4⟩ :: mark5 (k + 5) r
theorem mark5_len : ∀ (es : List KE) (k : Nat), (mark5 k es).length = es.length
  | [], _ => rfl
  | _ :: r, k => by rw [mark5, List.length_cons, mark5_len r, List.length_cons]
theorem mark5_snoc : ∀ (es : List KE) (k : Nat) (e : KE), mark5 k (es ++ [e]) = mark5 k es ++ [⟨(k + 5 * es.length : Nat), (k + 5 * es.length : Nat) + 1, (k + 5 * es.length : Nat) + 2, (k + 5 * es.length : Nat) + 3, (k + 5 * es.length : Nat) + 4⟩]
  | [], k, _ => by simp [mark5]
  | _ :: r, k, e => by
    rw [List.cons_append, mark5, mark5_snoc r (k + 5) e, mark5, List.cons_append, List.length_cons, show k + 5 + 5 * r.length = k + 5 * (r.length + 1) by omega]
theorem mark5_get : ∀ (es : List KE) (k j : Nat), j < es.length → (mark5 k es)[j]? = some ⟨((k + 5 * j : Nat) : Int), ((k + 5 * j : Nat) : Int) + 1, ((k + 5 * j : Nat) : Int) + 2, ((k + 5 * j : Nat) : Int) + 3, ((k + 5 * j : Nat) : Int) + 4⟩
  | [], _, j, h => by simp at h
  | _ :: r, k, 0, _ => by simp [mark5]
  | _ :: r, k, j + 1, h => by
    rw [mark5, List.getElem?_cons_succ, mark5_get r (k + 5) j (by simpa using h), show k + 5 + 5 * j = k + 5 * (j + 1) by omega]
end Go.Proofs.Ytpgnappddddlpaa
namespace Go.Proofs.Ytpgnappddddlpaa
open Go.RowKit

def kedgeB (lo hi : Int) (e : KE) : Bool := decide (0 ≤ e.f ∧ e.f < 150 ∧ lo ≤ e.t ∧ e.t < hi ∧ 0 ≤ e.w ∧ e.w ≤ 1000 ∧ 0 ≤ e.i ∧ e.i < 400 ∧ 0 ≤ e.v ∧ e.v ≤ 281474976710655)
def afterB (p q : Int) (e : KE) : Bool := decide (p < e.f ∨ (p = e.f ∧ q < e.i))
def runK (lo hi : Int) : Int → Int → List KE → Bool
  | _, _, [] => true
  | p, q, e :: r => kedgeB lo hi e && afterB p q e && runK lo hi e.f e.i r
def shardB (lo hi : Int) (es : List KE) : Bool := decide (0 ≤ lo ∧ lo < hi ∧ hi ≤ 150 ∧ es.length ≤ 400) && runK lo hi (-1) 0 es

theorem kedgeB_iff {lo hi : Int} {e : KE} (h : kedgeB lo hi e = true) : 0 ≤ e.f ∧ e.f < 150 ∧ lo ≤ e.t ∧ e.t < hi ∧ 0 ≤ e.w ∧ e.w ≤ 1000 ∧ 0 ≤ e.i ∧ e.i < 400 ∧ 0 ≤ e.v ∧ e.v ≤ 281474976710655 := of_decide_eq_true h
theorem afterB_iff {p q : Int} {e : KE} (h : afterB p q e = true) : p < e.f ∨ (p = e.f ∧ q < e.i) := of_decide_eq_true h
theorem shardB_iff {lo hi : Int} {es : List KE} (h : shardB lo hi es = true) : 0 ≤ lo ∧ lo < hi ∧ hi ≤ 150 ∧ es.length ≤ 400 ∧ runK lo hi (-1) 0 es = true := by
  unfold shardB at h
  rw [Bool.and_eq_true, decide_eq_true_iff] at h
  exact ⟨h.1.1, h.1.2.1, h.1.2.2.1, h.1.2.2.2, h.2⟩
theorem shardB_yes {lo hi : Int} {es : List KE} (h0 : 0 ≤ lo) (h1 : lo < hi) (h2 : hi ≤ 150) (h3 : es.length ≤ 400) : shardB lo hi es = runK lo hi (-1) 0 es := by
  simp [shardB, h0, h1, h2, h3]
theorem runK_drop {lo hi p q : Int} {es : List KE} {k : Nat} {e : KE} (he : es[k]? = some e) (h : runK lo hi p q (es.drop k) = runK lo hi (-1) 0 es) : (kedgeB lo hi e && afterB p q e && runK lo hi e.f e.i (es.drop (k + 1))) = runK lo hi (-1) 0 es := by
  rw [← h, g_drop es k e he, runK]
theorem runK_each {lo hi : Int} : ∀ {es : List KE} {p q : Int}, runK lo hi p q es = true → ∀ e ∈ es, kedgeB lo hi e = true
  | [], _, _, _, e, he => by cases he
  | a :: r, p, q, h, e, he => by
    rw [runK, Bool.and_eq_true, Bool.and_eq_true] at h
    rcases List.mem_cons.1 he with rfl | he
    · exact h.1.1
    · exact runK_each h.2 e he
/-- The edges of a valid shard do not fall in From. -/
theorem runK_from {lo hi : Int} : ∀ {es : List KE} {p q : Int}, runK lo hi p q es = true → (∀ e ∈ es, p ≤ e.f) ∧ es.Pairwise (fun a b => a.f ≤ b.f)
  | [], _, _, _ => ⟨by simp, List.Pairwise.nil⟩
  | a :: r, p, q, h => by
    rw [runK, Bool.and_eq_true, Bool.and_eq_true] at h
    obtain ⟨h1, h2⟩ := runK_from h.2
    have h3 := afterB_iff h.1.2
    refine ⟨fun e he => ?_, List.pairwise_cons.2 ⟨h1, h2⟩⟩
    rcases List.mem_cons.1 he with rfl | he
    · omega
    · have := h1 e he; omega
theorem kedgeB_parts {lo hi : Int} {e : KE} (h : kedgeB lo hi e = false) : e.f < 0 ∨ (0 ≤ e.f ∧ 150 ≤ e.f) ∨ (0 ≤ e.f ∧ e.f < 150 ∧ e.t < lo) ∨ (0 ≤ e.f ∧ e.f < 150 ∧ lo ≤ e.t ∧ hi ≤ e.t) ∨ (0 ≤ e.f ∧ e.f < 150 ∧ lo ≤ e.t ∧ e.t < hi ∧ e.w < 0) ∨ (0 ≤ e.f ∧ e.f < 150 ∧ lo ≤ e.t ∧ e.t < hi ∧ 0 ≤ e.w ∧ 1000 < e.w) ∨
    (0 ≤ e.f ∧ e.f < 150 ∧ lo ≤ e.t ∧ e.t < hi ∧ 0 ≤ e.w ∧ e.w ≤ 1000 ∧ e.i < 0) ∨ (0 ≤ e.f ∧ e.f < 150 ∧ lo ≤ e.t ∧ e.t < hi ∧ 0 ≤ e.w ∧ e.w ≤ 1000 ∧ 0 ≤ e.i ∧ 400 ≤ e.i) ∨ (0 ≤ e.f ∧ e.f < 150 ∧ lo ≤ e.t ∧ e.t < hi ∧ 0 ≤ e.w ∧ e.w ≤ 1000 ∧ 0 ≤ e.i ∧ e.i < 400 ∧ ¬ (0 ≤ e.v ∧ e.v ≤ 281474976710655)) := by
  have h := of_decide_eq_false h
  rcases Int.lt_or_le e.f 0 with h1 | h1
  · exact .inl h1
  refine .inr ?_
  rcases Int.lt_or_le e.f 150 with h2 | h2
  case inr => exact .inl ⟨h1, h2⟩
  refine .inr ?_
  rcases Int.lt_or_le e.t lo with h3 | h3
  · exact .inl ⟨h1, h2, h3⟩
  refine .inr ?_
  rcases Int.lt_or_le e.t hi with h4 | h4
  case inr => exact .inl ⟨h1, h2, h3, h4⟩
  refine .inr ?_
  rcases Int.lt_or_le e.w 0 with h5 | h5
  · exact .inl ⟨h1, h2, h3, h4, h5⟩
  refine .inr ?_
  rcases Int.lt_or_le 1000 e.w with h6 | h6
  · exact .inl ⟨h1, h2, h3, h4, h5, h6⟩
  refine .inr ?_
  rcases Int.lt_or_le e.i 0 with h7 | h7
  · exact .inl ⟨h1, h2, h3, h4, h5, h6, h7⟩
  refine .inr ?_
  rcases Int.lt_or_le e.i 400 with h8 | h8
  case inr => exact .inl ⟨h1, h2, h3, h4, h5, h6, h7, h8⟩
  refine .inr ?_
  exact ⟨h1, h2, h3, h4, h5, h6, h7, h8, fun h9 => h ⟨h1, h2, h3, h4, h5, h6, h7, h8, h9⟩⟩
theorem prev_next {es : List KE} {k : Nat} {e : KE} (he : es[k]? = some e) : ∀ (j : Nat) (x : KE), k + 1 = j + 1 → es[j]? = some x → e.f = x.f ∧ e.i = x.i := fun j x hj hx => by
  obtain rfl : k = j := by omega
  rw [he] at hx
  injection hx with hx
  subst hx
  exact ⟨rfl, rfl⟩
end Go.Proofs.Ytpgnappddddlpaa
