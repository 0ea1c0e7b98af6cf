/- Words for slices of bytes (plain lemmas over the model; no condition): 'Rd w A n xs': the slice at A of length n reads in w as the bytes xs; what the call itself owns ('ownsRow') reads so; a reading is kept where nothing old is written. // What a call that makes a new slice of bytes leaves; the row of the table of types for bytes. // A slice that reads as a list of cells, nil let in, and 'append' of such a slice onto a row of the call's own (after the guide's words for memory); its use for slices of bytes. // Bits of int (64 bits) at numbers that are not negative: 'or' and 'xor' are those of the natural numbers; an 'or' onto free low bits is a sum. // What a writer of numbers leaves; the digits of numbers of variable length; words for an append of one byte. // The contracts of the draws behind the laws: a cursor over the bytes of a draw; the next byte, a number below a bound, some bytes. They say that what is drawn lies in its range, and that nothing but the cursor is written. // Parted from YtlhcobkncceodaaGreatDoorDrawG: a row of the call's own stays while an older block is written (a plain lemma over the model; no condition). // Words for slices of bytes, of files and of operations in memory (plain lemmas over the model; no condition): a record bears its own slice of bytes and what that slice holds ('Dat', 'Ent', 'OpE'); 'Row': a slice that reads as a list of cells; 'OwnB': slices of bytes of the call's own, no two in one block. // A block of cells that is known whole (plain lemmas over the model; no condition). // A cursor and blocks of the call's own beside writings (plain lemmas over the model; no condition). // Words for slices of edges and of numbers in memory (plain lemmas over the model; no condition): 'SlG': a slice that reads as a list of edges; 'SlI': one that reads as a list of numbers; what is laid record by record. // Words that all texts on lists of records of three numbers share (no condition). // A block of two writable cells, what grows while one block is written, a new record that reads (plain lemmas over the model; no condition). // Words that all texts on graphs share (no condition). -/
import Derived.WalkKit
import Derived.WalkSpells
import Derived.Below
import Derived.Laws.OwnMore
import Derived.Deep.AppendLies
import Derived.Deep.Draws
import Derived.Laws.Rows
import Derived.Lib.Hide
import Derived.OpenShut
import Derived.Test.YtlhcobkncceodaaGreatDoorRows
import Derived.Deep.QuietTactic
import Derived.BigQuiet
import Derived.Maps.AppendAt
import Derived.RegionTactic
import Derived.OwnWalk
import Derived.Laws.BitsAllLaws
import Derived.Laws.BitsLemmas
import Derived.RangeFuncBox
import Derived.Deep.RegionWith
namespace Go.Proofs.YtlhcobkncceodaaGreatDoor
open Go.RowKit

def vb (xs : List Nat) : List Value := xs.map fun n : Nat => .int .u8 (n : Int)
theorem vb_length (xs : List Nat) : (vb xs).length = xs.length := by simp [vb]
theorem vb_get (xs : List Nat) (j : Nat) : (vb xs)[j]? = (xs[j]?).map fun n : Nat => .int .u8 (n : Int) := by simp [vb]
theorem vb_oneCell (xs : List Nat) : ∀ u ∈ vb xs, u.oneCell' = true := by
  intro u hu
  simp only [vb, List.mem_map] at hu
  obtain ⟨n, _, rfl⟩ := hu
  rfl

theorem grownBy_trans {a b c : World} {row : Option Nat} (h : a.grownBy b row) (k : b.grownBy c row) : a.grownBy c row :=
  ⟨k.os.trans h.os, k.tape.trans h.tape, k.output.trans h.output, Nat.le_trans h.size k.size, fun i hi hn => (k.block i (Nat.lt_of_lt_of_le hi h.size) hn).trans (h.block i hi hn)⟩
theorem grownBy_drewN {a w : World} {row : Option Nat} (h : a.grownBy w row) (n : Nat) : a.grownBy (w.drewN n) row := ⟨h.os, h.tape, h.output, h.size, h.block⟩
theorem below_drewN {B : Nat} {a w : World} (h : Below B a w) (n : Nat) : Below B a (w.drewN n) := ⟨h.os, h.tape, h.output, h.size, h.block⟩

/-- The slice value '.slice A n c' reads in w as the bytes xs. -/
structure Rd (w : World) (A : Option Addr) (n : Nat) (xs : List Nat) : Prop where
  len : xs.length = n
  small : ∀ x ∈ xs, x < 256
  lies : 0 < n → ∃ b off, A = some ⟨b, off, none⟩ ∧ b < w.heap.size ∧ ∀ (j : Nat) (x : Nat), xs[j]? = some x → w.cell? ⟨b, off + j, none⟩ = some (.int .u8 (x : Int))

section
variable {w w' : World} {A : Option Addr} {n : Nat} {xs : List Nat}
theorem Rd.at_ {k : Nat} (h : Rd w A n xs) (hk : k < n) : ∃ (b off x : Nat), A = some ⟨b, off, none⟩ ∧ b < w.heap.size ∧ x < 256 ∧ Hid (xs[k]? = some x) ∧ w.cell? ⟨b, off + k, none⟩ = some (.int .u8 (x : Int)) := by
  obtain ⟨b, off, rfl, hb, hc⟩ := h.lies (by omega)
  have hl : k < xs.length := by have := h.len; omega
  exact ⟨b, off, xs[k], rfl, hb, h.small _ (List.getElem_mem hl), List.getElem?_eq_getElem hl, hc k _ (List.getElem?_eq_getElem hl)⟩
theorem Rd.keep (h : Rd w A n xs) (hs : w.heap.size ≤ w'.heap.size) (hk : ∀ p : Addr, p.block < w.heap.size → w'.cell? p = w.cell? p) : Rd w' A n xs :=
  ⟨h.len, h.small, fun hn => by
    obtain ⟨b, off, e, hb, hc⟩ := h.lies hn
    exact ⟨b, off, e, by omega, fun j u hu => (hk _ hb).trans (hc j u hu)⟩⟩
theorem Rd.below (h : Rd w A n xs) (hb : Below w.heap.size w w') : Rd w' A n xs := h.keep hb.size fun _ hp => hb.cell hp
theorem Rd.drewN (h : Rd w A n xs) (k : Nat) : Rd (w.drewN k) A n xs := ⟨h.len, h.small, h.lies⟩
theorem Rd.drew (h : Rd w A n xs) : Rd w.drew A n xs := ⟨h.len, h.small, h.lies⟩
theorem Rd.alloc (h : Rd w A n xs) (o : Obj) : Rd (w.alloc o) A n xs := h.keep (by simp) fun p hp => World.cell?_alloc_lt w o p hp
theorem Rd.nil : Rd w A 0 [] := ⟨rfl, by simp, fun h => absurd h (by omega)⟩
theorem Rd.other {row : Option Nat} (h : Rd w A n xs) (hg : w.grownBy w' row) (hr : ∀ b off sp, A = some ⟨b, off, sp⟩ → some b ≠ row) : Rd w' A n xs :=
  ⟨h.len, h.small, fun hn => by
    obtain ⟨b, off, e, hb, hc⟩ := h.lies hn
    have := hg.size
    exact ⟨b, off, e, by omega, fun j u hu => (World.cell?_of_block (hg.block b hb (hr _ _ _ e))).trans (hc j u hu)⟩⟩
/-- What the call owns reads as its bytes. -/
theorem Rd.of_own {base e c : Nat} (h : w.ownsRow base e 1 (.slice A n c) n (vb xs)) (hs : ∀ x ∈ xs, x < 256) : Rd w A n xs := by
  have hl : xs.length = n := by have := h.1; rw [vb_length] at this; omega
  refine ⟨hl, hs, fun hn => ?_⟩
  obtain ⟨g, cap, hv, _, hlt⟩ := h.form hn
  have hA : A = some ⟨g, 0, none⟩ := by injection hv
  subst hA
  refine ⟨g, 0, rfl, hlt, fun j u hu => ?_⟩
  have := h.cells (g := g) rfl j (.int .u8 (u : Int)) (by rw [vb_get, hu]; rfl)
  have hx : ((⟨g, 0, none⟩ : Addr).add j) = ⟨g, 0 + j, none⟩ := by unfold Addr.add; split <;> simp_all
  rw [hx] at this
  exact this
end

theorem grownBy_of_below {w w' : World} (h : Below w.heap.size w w') (row : Option Nat) : w.grownBy w' row := ⟨h.os, h.tape, h.output, h.size, fun i hi _ => h.block i hi⟩
/-- What is owned stays owned where nothing old is written. -/
theorem own_below {w w' : World} {base e size n : Nat} {v : Value} {xs : List Value} (h : w.ownsRow base e size v n xs) (hb : Below w.heap.size w w') : w'.ownsRow base e size v n xs :=
  h.kept (grownBy_of_below hb none) (by cases v.ownBlock <;> simp)
theorem own_drewN {w : World} {base e size n : Nat} {v : Value} {xs : List Value} (h : w.ownsRow base e size v n xs) (k : Nat) : (w.drewN k).ownsRow base e size v n xs := h
/-- What a slice of bytes that came in is told as (the shell's word), read as bytes. -/
def IsRow (k : IntKind) (w : World) (a : Option Addr) (len cap : Nat) (zs : List Int) : Prop :=
  (a = none ∧ len = 0 ∧ cap = 0 ∧ zs = []) ∨
  ∃ x, a = some x ∧ len ≤ cap ∧ cap ≤ maxLen ∧ zs.length = cap ∧ (∀ i, i < zs.length → w.cell? (x.add i) = some (.int k (zs.getD i 0))) ∧ ∀ n ∈ zs, (Lit.int k n).wf = true

theorem IsRow.rd {w : World} {a : Option Addr} {len cap : Nat} {zs : List Int} (h : IsRow .u8 w a len cap zs) : len ≤ cap ∧ cap ≤ maxLen ∧ ∃ xs, Rd w a len xs := by
  rcases h with ⟨rfl, rfl, rfl, rfl⟩ | ⟨x, rfl, hl, hm, hz, hcell, hwz⟩
  · exact ⟨Nat.le_refl _, by unfold maxLen; omega, [], Rd.nil⟩
  · refine ⟨hl, hm, (zs.take len).map Int.toNat, ?_, ?_, ?_⟩
    · simp; omega
    · intro y hy
      simp only [List.mem_map] at hy
      obtain ⟨z, hzm, rfl⟩ := hy
      have := hwz z (List.mem_of_mem_take hzm)
      have := bounds_u8 this
      omega
    · intro hn
      obtain ⟨b, off, spot⟩ := x
      have hc := hcell 0 (by omega)
      have hspot : spot = none := by simpa [Addr.add] using World.cell?_spot hc
      subst hspot
      refine ⟨b, off, rfl, World.block_lt_of_cell? w _ hc, fun j u hu => ?_⟩
      have hj : j < len := by have := (List.getElem?_eq_some_iff.1 hu).1; simp at this; omega
      have h1 := hcell j (by omega)
      have hx : ((⟨b, off, none⟩ : Addr).add j) = ⟨b, off + j, none⟩ := by unfold Addr.add; split <;> simp_all
      rw [hx] at h1
      rw [h1]
      have hjz : j < zs.length := by omega
      have hw := bounds_u8 (hwz _ (List.getElem_mem hjz))
      simp only [List.getElem?_map, List.getElem?_take, if_pos hj, List.getElem?_eq_getElem hjz, Option.map_some, Option.some.injEq] at hu
      simp only [List.getD_eq_getElem?_getD, List.getElem?_eq_getElem hjz, Option.getD_some]
      rw [← hu, Int.toNat_of_nonneg hw.1]
end Go.Proofs.YtlhcobkncceodaaGreatDoor
namespace Go.Proofs.YtlhcobkncceodaaGreatDoor
open Go.RowKit

theorem Tryz.infoByte : (Tryz.prog.info? 5).map (fun i => (i.zero, i.size, i.bytes)) = some (some (.int .u8 0), 1, 1) := by kernel_rfl

end Go.Proofs.YtlhcobkncceodaaGreatDoor
namespace Go.Proofs.YtlhcobkncceodaaGreatDoor
open Go.RowKit

theorem block_of_add (a : Addr) (n : Nat) : (a.add n).block = a.block := by unfold Addr.add; split <;> rfl
def Reads (w : World) (B size : Nat) (A : Option Addr) (n : Nat) (xs : List Value) : Prop :=
  xs.length = n * size ∧ (0 < n → ∃ ad, A = some ad ∧ ad.block < B ∧ ∀ j u, xs[j]? = some u → w.cell? (ad.add j) = some u)

section
variable {w w' : World} {B B' size n : Nat} {A : Option Addr} {xs : List Value}
theorem Reads.at_ {k : Nat} (h : Reads w B 1 A n xs) (hk : k < n) : ∃ ad u, A = some ad ∧ ad.block < B ∧ xs[k]? = some u ∧ w.cell? (ad.add k) = some u := by
  obtain ⟨ad, e, hb, hc⟩ := h.2 (by omega)
  have hl : k < xs.length := by have := h.1; omega
  exact ⟨ad, xs[k], e, hb, List.getElem?_eq_getElem hl, hc k _ (List.getElem?_eq_getElem hl)⟩
theorem Reads.keep (h : Reads w B size A n xs) (hk : ∀ p : Addr, p.block < B → w'.cell? p = w.cell? p) : Reads w' B size A n xs :=
  ⟨h.1, fun hn => by
    obtain ⟨ad, e, hb, hc⟩ := h.2 hn
    exact ⟨ad, e, hb, fun j u hu => (hk _ (by rw [block_of_add]; exact hb)).trans (hc j u hu)⟩⟩
theorem Reads.more (h : Reads w B size A n xs) (hB : B ≤ B') : Reads w B' size A n xs :=
  ⟨h.1, fun hn => by
    obtain ⟨ad, e, hb, hc⟩ := h.2 hn
    exact ⟨ad, e, by omega, hc⟩⟩
theorem Reads.below (h : Reads w B size A n xs) (hb : Below B w w') : Reads w' B size A n xs := h.keep fun _ hp => hb.cell hp
theorem Reads.drew (h : Reads w B size A n xs) : Reads w.drew B size A n xs := h
theorem Reads.drewN (h : Reads w B size A n xs) (k : Nat) : Reads (w.drewN k) B size A n xs := h
theorem Reads.alloc (h : Reads w B size A n xs) (hB : B ≤ w.heap.size) (o : Obj) : Reads (w.alloc o) B size A n xs := h.keep fun p hp => World.cell?_alloc_lt w o p (by omega)
theorem Reads.setCell (h : Reads w B size A n xs) {p : Addr} (hB : B ≤ p.block) (u : Value) : Reads (w.setCell p u) B size A n xs :=
  h.keep fun q hq => World.cell?_setCell_other w p q u (fun e => by subst e; omega)
theorem Reads.grown (h : Reads w B size A n xs) {row : Option Nat} (hg : w.grownBy w' row) (hB : B ≤ w.heap.size) (hr : ∀ g, row = some g → B ≤ g) : Reads w' B size A n xs :=
  h.keep fun p hp => World.cell?_of_block (hg.block p.block (by omega) (fun e => by have := hr _ e.symm; omega))
theorem Reads.of_own {base : Nat} {e : TypeId} {c : Nat} (h : w.ownsRow base e size (.slice A n c) n xs) : Reads w w.heap.size size A n xs := by
  refine ⟨h.1, fun hn => ?_⟩
  obtain ⟨g, cap, hv, _, hlt⟩ := h.form hn
  have hA : A = some ⟨g, 0, none⟩ := by injection hv
  subst hA
  exact ⟨_, rfl, hlt, h.cells (g := g) rfl⟩
end

section
variable {P : Program} (w : World)

theorem run_append_of_nil (base : Nat) (t ty e : TypeId) (i : TypeInfo) (size : Nat) (ht : P.underlying t = some (.slice e)) (hi : P.info? e = some i)
    (v : Value) (n : Nat) (xs : List Value) (hown : w.ownsRow base e size v n xs) (c : Nat) : (Builtin.append_ #[t, t] ty #[v, .slice none 0 c]).run P w = .ok v w := by
  rcases hown.2 with ⟨rfl, rfl⟩ | ⟨g, cap, cur, rfl, _, _, hnc, _⟩
  · simp [Builtin.append_, run_underlying ht, sizeOf, typeInfo, hi, Builtin.lenOf, Builtin.firstCells]
  · simp [Builtin.append_, run_underlying ht, sizeOf, typeInfo, hi, Builtin.lenOf, Builtin.firstCells, hnc, storeCells]

theorem run_append_any (base : Nat) (t ty e : TypeId) (i : TypeInfo) (z : Value) (size bytes : Nat) (ht : P.underlying t = some (.slice e)) (hi : P.info? e = some i) (hz : i.zero = some z)
    (hsize : i.size = size) (hby : i.bytes = bytes) (hzs : z.cells.size = size) (hsz : 0 < size)
    (v : Value) (n : Nat) (xs : List Value) (hown : w.ownsRow base e size v n xs)
    (B : Nat) (A : Option Addr) (m c : Nat) (news : List Value) (hr : Reads w B size A m news) (h1 : ∀ u ∈ news, u.oneCell' = true)
    (h63 : n + m ≤ maxLen) (hbytes : (n + m) * bytes ≤ 140737488355328) (hbase : base ≤ w.heap.size) :
    ∃ v' w', (Builtin.append_ #[t, t] ty #[v, .slice A m c]).run P w = .ok v' w' ∧ w'.ownsRow base e size v' (n + m) (xs ++ news) ∧ w.grownBy w' v.ownBlock ∧
      (v'.ownBlock = v.ownBlock ∨ v'.ownBlock = some w.heap.size) := by
  rcases A with _ | ad
  · have hm : m = 0 := by
      rcases Nat.eq_zero_or_pos m with h0 | h0
      · exact h0
      · obtain ⟨ad, h, _⟩ := hr.2 h0
        cases h
    subst hm
    have hn : news = [] := List.eq_nil_of_length_eq_zero (by simpa using hr.1)
    subst hn
    exact ⟨v, w, run_append_of_nil w base t ty e i size ht hi v n xs hown c, by simpa using hown, World.grownBy.refl w _, .inl rfl⟩
  · have hcells : ∀ j u, news[j]? = some u → w.cell? (ad.add j) = some u := by
      intro j u hu
      rcases Nat.eq_zero_or_pos m with h0 | h0
      · subst h0
        have hn : news = [] := List.eq_nil_of_length_eq_zero (by simpa using hr.1)
        subst hn
        simp at hu
      · obtain ⟨ad', h, _, hc⟩ := hr.2 h0
        injection h with h
        subst h
        exact hc j u hu
    obtain ⟨v', w', hrun, h2, h3, _, h5⟩ := run_append_own_at (P := P) w base t ty e i z size bytes ht hi hz hsize hby hzs hsz v n xs hown ad m c news hr.1 hcells h1 h63 hbytes hbase
    exact ⟨v', w', hrun, h2, h3, h5⟩

theorem wp_append_any {o : Oper} {a : Act} {K : Act → World → Prop} {Q : Exit → Act → World → Prop} (s x : Operand) (t : TypeId)
    (ho : o.op = .call { callee := .builtin .append, args := #[s, x], argTypes := #[t, t] })
    (base : Nat) (e : TypeId) (i : TypeInfo) (z : Value) (size bytes : Nat) (ht : P.underlying t = some (.slice e)) (hi : P.info? e = some i) (hz : i.zero = some z)
    (hsize : i.size = size) (hby : i.bytes = bytes) (hzs : z.cells.size = size) (hsz : 0 < size)
    (v : Value) (n : Nat) (xs : List Value) (hs : a.eval s = v) (hown : w.ownsRow base e size v n xs)
    (B : Nat) (A : Option Addr) (m c : Nat) (news : List Value) (hx : a.eval x = .slice A m c) (hr : Reads w B size A m news) (h1 : ∀ u ∈ news, u.oneCell' = true)
    (h63 : n + m ≤ maxLen) (hbytes : (n + m) * bytes ≤ 140737488355328) (hbase : base ≤ w.heap.size)
    (h : ∀ v' w', w'.ownsRow base e size v' (n + m) (xs ++ news) → w.grownBy w' v.ownBlock → (v'.ownBlock = v.ownBlock ∨ v'.ownBlock = some w.heap.size) → K (a.put o.dst v') w') : o.wp P a w K Q := by
  obtain ⟨v', w', hrun, h2, h3, h4⟩ := run_append_any (P := P) w base t o.type e i z size bytes ht hi hz hsize hby hzs hsz v n xs hown B A m c news hr h1 h63 hbytes hbase
  unfold Oper.wp execOp
  simp only [ho, resolve, invoke, builtin, Sem.run_bind, Sem.run_pure, Result.andThen_ok, List.map_toArray, List.map_cons, List.map_nil, hs, hx, hrun]
  exact h v' w' h2 h3 h4

theorem wpList_append_any {ops : Array Oper} {rest : List Oper} {o : Oper} {a : Act} {Q : Exit → Act → World → Prop} (hgd : o.guard = none) (s x : Operand) (t : TypeId)
    (ho : o.op = .call { callee := .builtin .append, args := #[s, x], argTypes := #[t, t] })
    (base : Nat) (e : TypeId) (i : TypeInfo) (z : Value) (size bytes : Nat) (ht : P.underlying t = some (.slice e)) (hi : P.info? e = some i) (hz : i.zero = some z)
    (hsize : i.size = size) (hby : i.bytes = bytes) (hzs : z.cells.size = size) (hsz : 0 < size)
    (v : Value) (n : Nat) (xs : List Value) (hs : a.eval s = v) (hown : w.ownsRow base e size v n xs)
    (B : Nat) (A : Option Addr) (m c : Nat) (news : List Value) (hx : a.eval x = .slice A m c) (hr : Reads w B size A m news) (h1 : ∀ u ∈ news, u.oneCell' = true)
    (h63 : n + m ≤ maxLen) (hbytes : (n + m) * bytes ≤ 140737488355328) (hbase : base ≤ w.heap.size)
    (h : ∀ v' w', w'.ownsRow base e size v' (n + m) (xs ++ news) → w.grownBy w' v.ownBlock → (v'.ownBlock = v.ownBlock ∨ v'.ownBlock = some w.heap.size) → wpList P ops Q rest (a.put o.dst v') w') : wpList P ops Q (o :: rest) a w :=
  wpList_plain hgd fun _ hK => wp_append_any w s x t ho base e i z size bytes ht hi hz hsize hby hzs hsz v n xs hs hown B A m c news hx hr h1 h63 hbytes hbase fun v' w' h2 h3 h4 => hK _ _ (h v' w' h2 h3 h4)

theorem step_append_any {ops : Array Oper} {o : Oper} {a : Act} {K : Act → World → Prop} {Q : Exit → Act → World → Prop} {E : Prop} (hgd : o.guard = none) (s x : Operand) (t : TypeId)
    (ho : o.op = .call { callee := .builtin .append, args := #[s, x], argTypes := #[t, t] })
    (base : Nat) (e : TypeId) (i : TypeInfo) (z : Value) (size bytes : Nat) (ht : P.underlying t = some (.slice e)) (hi : P.info? e = some i) (hz : i.zero = some z)
    (hsize : i.size = size) (hby : i.bytes = bytes) (hzs : z.cells.size = size) (hsz : 0 < size)
    (v : Value) (n : Nat) (xs : List Value) (hs : a.eval s = v) (hown : w.ownsRow base e size v n xs)
    (B : Nat) (A : Option Addr) (m c : Nat) (news : List Value) (hx : a.eval x = .slice A m c) (hr : Reads w B size A m news) (h1 : ∀ u ∈ news, u.oneCell' = true)
    (h63 : n + m ≤ maxLen) (hbytes : (n + m) * bytes ≤ 140737488355328) (hbase : base ≤ w.heap.size)
    (h : ∀ v' w', w'.ownsRow base e size v' (n + m) (xs ++ news) → w.grownBy w' v.ownBlock → (v'.ownBlock = v.ownBlock ∨ v'.ownBlock = some w.heap.size) → K (a.put o.dst v') w') :
    if Region.wanted o (yielded ops a.tmps) = true then Oper.wp P o a w K Q else E := by
  have hw : Region.wanted o (yielded ops a.tmps) = true := by simp [Region.wanted, hgd]
  rw [if_pos hw]
  exact wp_append_any w s x t ho base e i z size bytes ht hi hz hsize hby hzs hsz v n xs hs hown B A m c news hx hr h1 h63 hbytes hbase h
end

theorem Rd.reads {w : World} {A : Option Addr} {n : Nat} {xs : List Nat} (h : Rd w A n xs) : Reads w w.heap.size 1 A n (vb xs) := by
  refine ⟨by rw [vb_length, h.len]; omega, fun hn => ?_⟩
  obtain ⟨b, off, rfl, hb, hc⟩ := h.lies hn
  refine ⟨_, rfl, hb, fun j u hu => ?_⟩
  rw [vb_get] at hu
  obtain ⟨x, hx, rfl⟩ := Option.map_eq_some_iff.1 hu
  have hx2 : ((⟨b, off, none⟩ : Addr).add j) = ⟨b, off + j, none⟩ := by unfold Addr.add; split <;> simp_all
  rw [hx2]
  exact hc j x hx
end Go.Proofs.YtlhcobkncceodaaGreatDoor
namespace Go.Proofs.YtlhcobkncceodaaGreatDoor
open Go.RowKit

end Go.Proofs.YtlhcobkncceodaaGreatDoor
namespace Go.Proofs.YtlhcobkncceodaaGreatDoor
open Go.RowKit

/-- What a writer leaves: a new slice of the bytes ys, and whether there was something to write. -/
def PutRes (w : World) (ok : Bool) (ys : List Nat) (e : Ending) (w' : World) : Prop :=
  ∃ A c, e = .returned (.tuple #[.slice A ys.length c, .bool ok]) ∧ w'.ownsRow w.heap.size 5 1 (.slice A ys.length c) ys.length (vb ys) ∧ Below w.heap.size w w'

theorem PutRes.no (w : World) : PutRes w false [] (.returned (.tuple #[.slice none 0 0, .bool false])) w :=
  ⟨none, 0, rfl, World.ownsRow_nil _ _ _ _, Below.refl _ _⟩

/-- The digits of a number, the lowest first; all but the last with 128 on top. -/
def digits : Nat → Nat → List Nat
  | 0, n => [n]
  | f + 1, n => if n < 128 then [n] else (n % 128 + 128) :: digits f (n / 128)

/-- The digits that are written when n is left, of a number below 128^(f+1). -/
theorem digits_small (f n : Nat) (h : n < 128) : digits f n = [n] := by cases f <;> simp [digits, h]

theorem digits_big (f n : Nat) (h : 128 ≤ n) : digits (f + 1) n = (n % 128 + 128) :: digits f (n / 128) := by simp [digits]; omega

/-- '[]byte{}' owns nothing. -/
theorem built_none (w : World) : (w.alloc (.cells #[] 5)).ownsRow w.heap.size 5 1 (.slice (some ⟨w.heap.size, 0, none⟩) 0 0) 0 [] :=
  World.ownsRow_lit w #[] 0 (Nat.le_refl _) (by unfold maxLen; omega) rfl

theorem own_form {w : World} {base e n : Nat} {v : Value} {xs : List Value} (h : w.ownsRow base e 1 v n xs) : ∃ A c, v = .slice A n c := by
  rcases h.2 with ⟨rfl, rfl⟩ | ⟨g, cap, _, rfl, _⟩
  · exact ⟨_, _, rfl⟩
  · exact ⟨_, _, rfl⟩

/-- What is written so far (ys) and what is left (r) make the whole. -/
structure Left (whole ys : List Nat) (f r : Nat) : Prop where
  eq : ys ++ digits f r = whole
  lt : r < 128 ^ (f + 1)

theorem Left.step {whole ys : List Nat} {f r : Nat} (h : Left whole ys f r) (hr : 128 ≤ r) : ∃ g, f = g + 1 ∧ Left whole (ys ++ [r % 128 + 128]) g (r / 128) := by
  cases f with
  | zero => have := h.lt; simp at this; omega
  | succ g =>
    refine ⟨g, rfl, ?_, ?_⟩
    · rw [← h.eq, digits_big _ _ hr]; simp
    · have := h.lt; rw [Nat.pow_succ] at this; omega

theorem Left.done {whole ys : List Nat} {f r : Nat} (h : Left whole ys f r) (hr : r < 128) : ys ++ [r] = whole := by rw [← h.eq, digits_small _ _ hr]

end Go.Proofs.YtlhcobkncceodaaGreatDoor
namespace Go.Proofs.YtlhcobkncceodaaGreatDoor
open Go.RowKit

/-- The low byte of an int. -/
def lowByte (z : Int) : Nat := (bits .and .i64 z 255).toNat
theorem low_eq (z : Int) : bits .and .i64 z 255 = ((lowByte z : Nat) : Int) := by
  have h : 0 ≤ bits .and .i64 z 255 := by
    show 0 ≤ IntKind.i64.wrap ((BitVec.ofInt 64 z &&& BitVec.ofInt 64 255).toNat : Int)
    have : (BitVec.ofInt 64 z &&& BitVec.ofInt 64 255).toNat < 256 := by
      rw [BitVec.toNat_and]
      exact Nat.lt_of_le_of_lt Nat.and_le_right (by decide)
    rw [IntKind.wrap_i64]
    omega
  unfold lowByte
  omega
theorem low_lt (z : Int) : lowByte z < 256 := by
  have : (BitVec.ofInt 64 z &&& BitVec.ofInt 64 255).toNat < 256 := by
    rw [BitVec.toNat_and]
    exact Nat.lt_of_le_of_lt Nat.and_le_right (by decide)
  have h : bits .and .i64 z 255 = IntKind.i64.wrap ((BitVec.ofInt 64 z &&& BitVec.ofInt 64 255).toNat : Int) := rfl
  unfold lowByte
  rw [h, IntKind.wrap_i64]
  omega

/-- A cursor lies in block g, over the bytes xs at A. -/
structure Cur (w : World) (g : Nat) (A : Option Addr) (n c : Nat) (xs : List Nat) : Prop where
  rd : Rd w A n xs
  le : n ≤ 1048576
  ne : 0 < n → ∀ b off sp, A = some ⟨b, off, sp⟩ → b ≠ g
  cells : ∃ (i : Nat) (h : Int), i ≤ n ∧ (-9223372036854775808 ≤ h ∧ h ≤ 9223372036854775807) ∧ w.heap[g]? = some (.cells #[.slice A n c, .int .i64 (i : Int), .int .i64 h] 105 (0, 0))

theorem Rd.other0 {w w' : World} {A : Option Addr} {n : Nat} {xs : List Nat} {row : Option Nat} (h : Rd w A n xs) (hg : w.grownBy w' row) (hr : 0 < n → ∀ b off sp, A = some ⟨b, off, sp⟩ → some b ≠ row) : Rd w' A n xs :=
  ⟨h.len, h.small, fun hn => by
    obtain ⟨b, off, e, hb, hc⟩ := h.lies hn
    have := hg.size
    exact ⟨b, off, e, by omega, fun j u hu => (World.cell?_of_block (hg.block b hb (hr hn _ _ _ e))).trans (hc j u hu)⟩⟩
theorem block_cell {w : World} {g : Nat} {t : TypeId} {cs : Array Value} (h : w.heap[g]? = some (.cells cs t (0, 0))) (i : Nat) : w.cell? ⟨g, i, none⟩ = cs[i]? := cell_of_row w g i cs t (0, 0) h
theorem block_free {w : World} {g : Nat} {t : TypeId} {cs : Array Value} (h : w.heap[g]? = some (.cells cs t (0, 0))) (i : Nat) : w.frozen? ⟨g, i, none⟩ = false := frozen_of_row w g i cs t h
theorem block_set {w : World} {g : Nat} {t : TypeId} {cs : Array Value} (h : w.heap[g]? = some (.cells cs t (0, 0))) (i : Nat) (u : Value) : (w.setCell ⟨g, i, none⟩ u).heap[g]? = some (.cells (cs.setIfInBounds i u) t (0, 0)) := heap_setCell_same w g i cs t u h
theorem grown_setAt {a w : World} {g : Nat} (h : a.grownBy w (some g)) (i : Nat) (u : Value) : a.grownBy (w.setCell ⟨g, i, none⟩ u) (some g) :=
  ⟨h.os, h.tape, h.output, by simpa using h.size, fun k hk hne => (Below.heap_setCell w ⟨g, i, none⟩ u k (fun e => hne (by rw [e]))).trans (h.block k hk hne)⟩

theorem wrap64_range (z : Int) : -9223372036854775808 ≤ wrap64 z ∧ wrap64 z ≤ 9223372036854775807 := by
  unfold wrap64
  omega

def ByteRes (w : World) (g : Nat) (A : Option Addr) (n c : Nat) (xs : List Nat) (e : Ending) (w' : World) : Prop :=
  ∃ x : Nat, x < 256 ∧ e = .returned (.int .i64 (x : Int)) ∧ Cur w' g A n c xs ∧ w.grownBy w' (some g)

set_option maxRecDepth 10000 in
set_option maxHeartbeats 1000000 in
theorem drawByte (g : Nat) (A : Option Addr) (n c : Nat) (xs : List Nat) (w : World) (hcur : Cur w g A n c xs) :
    Calls Tryz.prog 108 #[.pointer (some ⟨g, 0, none⟩)] w (ByteRes w g A n c xs) := by
  obtain ⟨hrd, hn, hne, i, h, hi, ⟨hh1, hh2⟩, hb⟩ := hcur
  have hc2 : w.cell? ⟨g, 2, none⟩ = some (.int .i64 h) := block_cell hb 2
  have hf2 := block_free hb 2
  go_enter Tryz.func108, Tryz.ntmps108
  go_wp2
  have hr1 := wrap64_range (wrap64 (h * 6364136223846793005) + 1442695040888963407)
  generalize wrap64 (wrap64 (h * 6364136223846793005) + 1442695040888963407) = h1 at hr1 ⊢
  generalize wrap64 (h * 6364136223846793005) = h2
  have hb1 : (w.setCell ⟨g, 2, none⟩ (.int .i64 h1)).heap[g]? = some (.cells #[.slice A n c, .int .i64 (i : Int), .int .i64 h1] 105 (0, 0)) := block_set hb 2 _
  have hg1 : w.grownBy (w.setCell ⟨g, 2, none⟩ (.int .i64 h1)) (some g) := grown_setAt (World.grownBy.refl _ _) 2 _
  have hrd1 : Rd (w.setCell ⟨g, 2, none⟩ (.int .i64 h1)) A n xs := hrd.other0 hg1 (fun hn0 b off sp e he => hne hn0 b off sp e (by injection he))
  generalize w.setCell ⟨g, 2, none⟩ (.int .i64 h1) = w1 at hb1 hg1 hrd1 ⊢
  have c0 : w1.cell? ⟨g, 0, none⟩ = some (.slice A n c) := block_cell hb1 0
  have c1 : w1.cell? ⟨g, 1, none⟩ = some (.int .i64 (i : Int)) := block_cell hb1 1
  have c2 : w1.cell? ⟨g, 2, none⟩ = some (.int .i64 h1) := block_cell hb1 2
  have f1 := block_free hb1 1
  have hlow := low_eq
  have HNE := Lib.hid hne
  have HB := Lib.hid hb1
  have HRD := Lib.hid hrd1
  have HG := Lib.hid hg1
  clear hc2 hf2 hb hb1 hrd hrd1 hg1 hne
  go_quiet (fail)
  rename_i nq
  go_wp2
  have hy := low_lt (bits BinOp.xor IntKind.i64 (h1 / 8589934592) (h1 / 35184372088832))
  generalize lowByte (bits BinOp.xor IntKind.i64 (h1 / 8589934592) (h1 / 35184372088832)) = y at hy ⊢
  have HB2 : Hid ((w1.drewN nq).heap[g]? = some (.cells #[.slice A n c, .int .i64 (i : Int), .int .i64 h1] 105 (0, 0))) := HB
  have HRD2 := Lib.hid (HRD.out.drewN nq)
  have HG2 := Lib.hid (grownBy_drewN HG.out nq)
  clear c0 c1 c2 f1 HB HRD HG
  generalize w1.drewN nq = w2 at HB2 HRD2 HG2 ⊢
  have c0 : w2.cell? ⟨g, 0, none⟩ = some (.slice A n c) := block_cell HB2.out 0
  have c1 : w2.cell? ⟨g, 1, none⟩ = some (.int .i64 (i : Int)) := block_cell HB2.out 1
  by_cases hin : i < n
  · have hlt : (i : Int) < (n : Int) := by omega
    go_quiet (fail)
    rename_i nq
    go_wp2
    obtain ⟨b, off, x, rfl, hbw, hx, hxs, hc⟩ := (HRD2.out.drewN nq).at_ hin
    have hbg : b ≠ g := HNE.out (by omega) b off none rfl
    have HB3 : Hid ((w2.drewN nq).heap[g]? = some (.cells #[.slice (some ⟨b, off, none⟩) n c, .int .i64 (i : Int), .int .i64 h1] 105 (0, 0))) := HB2
    have HRD3 := Lib.hid (HRD2.out.drewN nq)
    have HG3 := Lib.hid (grownBy_drewN HG2.out nq)
    clear c0 c1 HB2 HRD2 HG2
    generalize w2.drewN nq = w3 at HB3 HRD3 HG3 hc ⊢
    have c0 : w3.cell? ⟨g, 0, none⟩ = some (.slice (some ⟨b, off, none⟩) n c) := block_cell HB3.out 0
    have c1 : w3.cell? ⟨g, 1, none⟩ = some (.int .i64 (i : Int)) := block_cell HB3.out 1
    have f1 := block_free HB3.out 1
    have hw : IntKind.i64.wrap ((y : Int) + (x : Int)) = (y : Int) + x := IntWalk.i64_in _ (by omega)
    have hi0 : (0 : Int) ≤ (i : Int) := by omega
    go_quiet (fail)
    rename Nat => nr
    have HB4 : Hid ((w3.drewN nr).heap[g]? = some (.cells #[.slice (some ⟨b, off, none⟩) n c, .int .i64 (i : Int), .int .i64 h1] 105 (0, 0))) := HB3
    have HRD4 := Lib.hid (HRD3.out.drewN nr)
    have HG4 := Lib.hid (grownBy_drewN HG3.out nr)
    clear c0 c1 f1 HB3 HRD3 HG3 hc
    generalize w3.drewN nr = w4 at HB4 HRD4 HG4 ⊢
    have c1 : w4.cell? ⟨g, 1, none⟩ = some (.int .i64 (i : Int)) := block_cell HB4.out 1
    have f1 := block_free HB4.out 1
    go_wp2
    go_ret
    have hgr := grown_setAt HG4.out 1 (.int .i64 ((i : Int) + 1))
    refine ⟨lowByte ((y : Int) + x), low_lt _, rfl, ⟨?_, hn, HNE.out, i + 1, h1, by omega, hr1, ?_⟩, hgr⟩
    · exact HRD4.out.other0 (row := some g) (grown_setAt (World.grownBy.refl _ _) 1 _) (fun hn0 b' off' sp' e he => HNE.out hn0 b' off' sp' e (by injection he))
    · have := block_set HB4.out 1 (.int .i64 ((i : Int) + 1))
      rw [Int.natCast_add]
      exact this
  · have hlt : decide ((i : Int) < (n : Int)) = false := decide_eq_false (by omega)
    go_quiet (fail)
    rename_i nq
    go_wp2
    go_ret
    exact ⟨y, hy, rfl, ⟨HRD2.out.drewN nq, hn, HNE.out, i, h1, hi, hr1, HB2.out⟩, grownBy_drewN HG2.out nq⟩
def BelowRes (w : World) (g : Nat) (A : Option Addr) (n c : Nat) (xs : List Nat) (m : Nat) (e : Ending) (w' : World) : Prop :=
  ∃ x : Nat, x < m ∧ e = .returned (.int .i64 (x : Int)) ∧ Cur w' g A n c xs ∧ w.grownBy w' (some g)

set_option maxRecDepth 10000 in
theorem drawBelow (g : Nat) (A : Option Addr) (n c m : Nat) (xs : List Nat) (w : World) (hcur : Cur w g A n c xs) (h0 : 0 < m) (hm : m ≤ 256) :
    Calls Tryz.prog 82 #[.pointer (some ⟨g, 0, none⟩), .int .i64 (m : Int)] w (BelowRes w g A n c xs m) := by
  have C := Lib.hid (drawByte g A n c xs w hcur)
  clear hcur
  go_enter Tryz.func82, Tryz.ntmps82
  go_wp2_with (go_at_call 108; refine C.out.mono ?_; rintro e w1 ⟨x, hx, rfl, hcur, hg⟩)
  go_ret
  exact ⟨x % m, Nat.mod_lt _ h0, by rw [Int.natCast_emod]; rfl, hcur, hg⟩

theorem Rd.far {w w' : World} {A : Option Addr} {n B : Nat} {xs : List Nat} {row : Option Nat} (h : Rd w A n xs) (hg : w.grownBy w' row) (hrow : ∀ k, row = some k → B ≤ k) (hA : 0 < n → ∀ b off sp, A = some ⟨b, off, sp⟩ → b < B) : Rd w' A n xs :=
  ⟨h.len, h.small, fun hn => by
    obtain ⟨b, off, e, hb, hc⟩ := h.lies hn
    have hsz := hg.size
    have hbB := hA hn b off none e
    exact ⟨b, off, e, by omega, fun j u hu => (World.cell?_of_block (hg.block b hb (fun he => by have := hrow b he.symm; omega))).trans (hc j u hu)⟩⟩
theorem Cur.far {w w' : World} {g : Nat} {A : Option Addr} {n c B : Nat} {xs : List Nat} {row : Option Nat} (h : Cur w g A n c xs) (hg : w.grownBy w' row) (hrow : ∀ k, row = some k → B ≤ k) (hgB : g < B) (hA : 0 < n → ∀ b off sp, A = some ⟨b, off, sp⟩ → b < B) : Cur w' g A n c xs := by
  obtain ⟨hrd, hn, hne, i, hh, hi, hr, hc⟩ := h
  exact ⟨hrd.far hg hrow hA, hn, hne, i, hh, hi, hr, (hg.block g (lt_of_block hc) (fun e => by have := hrow g e.symm; omega)).trans hc⟩
theorem grownBy_far {a w w' : World} {g : Nat} {row : Option Nat} (h : a.grownBy w (some g)) (hg : w.grownBy w' row) (hrow : ∀ k, row = some k → a.heap.size ≤ k) : a.grownBy w' (some g) :=
  ⟨hg.os.trans h.os, hg.tape.trans h.tape, hg.output.trans h.output, Nat.le_trans h.size hg.size, fun k hk hne => (hg.block k (Nat.lt_of_lt_of_le hk h.size) (fun e => by have := hrow k e.symm; omega)).trans (h.block k hk hne)⟩

theorem Cur.grow {w w' : World} {g : Nat} {A : Option Addr} {n c : Nat} {xs : List Nat} (h : Cur w g A n c xs) (hb : Below w.heap.size w w') : Cur w' g A n c xs := by
  obtain ⟨hrd, hn, hne, i, hh, hi, hr, hc⟩ := h
  exact ⟨hrd.below hb, hn, hne, i, hh, hi, hr, (hb.block g (lt_of_block hc)).trans hc⟩

def NewRes (w : World) (A : Option Addr) (n c : Nat) (xs : List Nat) (e : Ending) (w' : World) : Prop :=
  e = .returned (.pointer (some ⟨w.heap.size, 0, none⟩)) ∧ w.heap.size < w'.heap.size ∧ Cur w' w.heap.size A n c xs ∧ Below w.heap.size w w'

theorem new_res (A : Option Addr) (n c : Nat) (h : Int) (xs : List Nat) (w : World) (hr : Rd w A n xs) (hn : n ≤ 1048576) (h0 : 0 ≤ h) (h1 : h ≤ 1073741823) :
    NewRes w A n c xs (.returned (.pointer (some ⟨w.heap.size, 0, none⟩))) (w.alloc (.cells #[.slice A n c, .int .i64 0, .int .i64 h] 105)) := by
  refine ⟨rfl, by simp, ⟨hr.alloc _, hn, fun hn0 b off sp e => ?_, 0, h, by omega, by omega, heap_alloc_new w _⟩, (Below.refl _ _).alloc (Nat.le_refl _) _⟩
  obtain ⟨b', off', e', hb, _⟩ := hr.lies hn0
  rw [e'] at e
  injection e with e
  injection e with e1 e2 e3
  omega
theorem low30 (z : Int) : ∃ r : Int, bits .and .i64 z 1073741823 = r ∧ 0 ≤ r ∧ r ≤ 1073741823 := by
  refine ⟨_, rfl, ?_⟩
  show 0 ≤ IntKind.i64.wrap ((BitVec.ofInt 64 z &&& BitVec.ofInt 64 1073741823).toNat : Int) ∧ IntKind.i64.wrap ((BitVec.ofInt 64 z &&& BitVec.ofInt 64 1073741823).toNat : Int) ≤ 1073741823
  have : (BitVec.ofInt 64 z &&& BitVec.ofInt 64 1073741823).toNat ≤ 1073741823 := by
    rw [BitVec.toNat_and]
    exact Nat.le_trans Nat.and_le_right (by decide)
  rw [IntKind.wrap_i64]
  omega

set_option maxRecDepth 100000 in
set_option maxHeartbeats 1000000 in
theorem drawNew (A : Option Addr) (n c : Nat) (xs : List Nat) (w : World) (hr : Rd w A n xs) (hn : n ≤ 1048576) :
    Calls Tryz.prog 42 #[.slice A n c] w (NewRes w A n c xs) := by
  go_enter Tryz.func42, Tryz.ntmps42
  go_wp2
  go_loop [3, 4] (fun t i => ∃ (k : Nat) (h : Int), k ≤ n ∧ k ≤ 4000 ∧ i = .int .i64 (k : Int) ∧ 0 ≤ h ∧ h ≤ 1073741823 ∧ t = .int .i64 h) (fun _ i => 4000 - (intOf i).toNat)
  case atStart => exact ⟨0, _, by omega, by omega, rfl, by omega, by omega, rfl⟩
  case round =>
    obtain ⟨k, h, hk, hk2, rfl, h0, h1, rfl⟩ := hrel
    by_cases hlt : k < n
    · obtain ⟨b, off, x, rfl, hbw, hx, hxs, hc⟩ := hr.at_ hlt
      by_cases h4 : k < 4000
      · obtain ⟨r, hb, hr0, hr1⟩ := low30 (h * 157 + x + 7)
        go_wp2
        go_round
        case rel => exact ⟨k + 1, r, by omega, by omega, by go_num, by omega, by omega, rfl⟩
        case measure => simp [intOf]; omega
      · have h5 : decide ((k : Int) < 4000) = false := decide_eq_false (by omega)
        go_wp2
        go_ret
        exact new_res _ n c h xs w hr hn (by omega) (by omega)
    · go_wp2
      go_ret
      exact new_res A n c h xs w hr hn (by omega) (by omega)
end Go.Proofs.YtlhcobkncceodaaGreatDoor
namespace Go.Proofs.YtlhcobkncceodaaGreatDoor
open Go.RowKit

theorem own_keepG {w w' : World} {lo e size n g : Nat} {v : Value} {xs : List Value} (h : w.ownsRow lo e size v n xs) (hg : w.grownBy w' (some g)) (hgb : g < lo) : w'.ownsRow lo e size v n xs :=
  h.kept hg (.inr (fun e => by have := (h.lt g e).1; omega))
end Go.Proofs.YtlhcobkncceodaaGreatDoor
namespace Go.Proofs.YtlhcobkncceodaaGreatDoor
open Go.RowKit

/-- All old cells and all old marks read as before. -/
theorem bcell {W w1 : World} (hb : Below W.heap.size W w1) : (∀ b o, b < W.heap.size → w1.cell? ⟨b, o, none⟩ = W.cell? ⟨b, o, none⟩) ∧ (∀ b o, b < W.heap.size → w1.frozen? ⟨b, o, none⟩ = W.frozen? ⟨b, o, none⟩) :=
  ⟨fun b o h => hb.cell (p := ⟨b, o, none⟩) h, fun b o h => hb.frozen (p := ⟨b, o, none⟩) h⟩
theorem below_a1 (w : World) (o1 : Obj) : Below w.heap.size w (w.alloc o1) := (Below.refl _ _).alloc (Nat.le_refl _) _
theorem below_a2 (w : World) (o1 o2 : Obj) : Below w.heap.size w ((w.alloc o1).alloc o2) := (below_a1 w o1).alloc (by simp) _
theorem below_a3 (w : World) (o1 o2 o3 : Obj) : Below w.heap.size w (((w.alloc o1).alloc o2).alloc o3) := (below_a2 w o1 o2).alloc (by simp; omega) _

/-- Cells of blocks below B alone are written. -/
def Lows (B : Nat) (w w' : World) : Prop := ∀ k, B ≤ k → w'.heap[k]? = w.heap[k]?
theorem Lows.refl (B : Nat) (w : World) : Lows B w w := fun _ _ => rfl
theorem Lows.set {B : Nat} {w w' : World} (h : Lows B w w') {p : Addr} (hp : p.block < B) (u : Value) : Lows B w (w'.setCell p u) :=
  fun k hk => (Below.heap_setCell w' p u k (by omega)).trans (h k hk)

/-- A slice of bytes, and what it holds. -/
structure Dat where
  A : Option Addr
  n : Nat
  c : Nat
  xs : List Nat
def Dat.v (d : Dat) : Value := .slice d.A d.n d.c
structure Dat.Ok (w : World) (d : Dat) : Prop where
  rd : Rd w d.A d.n d.xs
  cap : d.n ≤ d.c
/-- A file. -/
structure Ent where
  nm : ByteArray
  d : Dat
def Ent.cells (e : Ent) : List Value := [.string e.nm, .slice e.d.A e.d.n e.d.c]
def Ent.file (e : Ent) : ByteArray × List Nat := (e.nm, e.d.xs)
/-- An operation. -/
structure OpE where
  kind : Int
  nm : ByteArray
  to : ByteArray
  d : Dat
def OpE.cells (o : OpE) : List Value := [.int .i64 o.kind, .string o.nm, .string o.to, .slice o.d.A o.d.n o.d.c]
def OpE.v (o : OpE) : Value := .agg #[.int .i64 o.kind, .string o.nm, .string o.to, .slice o.d.A o.d.n o.d.c]
def OpE.op (o : OpE) : Int × ByteArray × ByteArray × List Nat := (o.kind, o.nm, o.to, o.d.xs)
theorem Ent.cells_len (e : Ent) : e.cells.length = 2 := rfl
theorem OpE.cells_len (o : OpE) : o.cells.length = 4 := rfl

section
variable {w w' : World} {d : Dat}
theorem Dat.Ok.keep (h : d.Ok w) (hs : w.heap.size ≤ w'.heap.size) (hk : ∀ k, k < w.heap.size → w'.heap[k]? = w.heap[k]?) : d.Ok w' :=
  ⟨h.rd.keep hs fun p hp => World.cell?_of_block (hk p.block hp), h.cap⟩
theorem Dat.Ok.below (h : d.Ok w) (hb : Below w.heap.size w w') : d.Ok w' := h.keep hb.size hb.block
theorem Dat.Ok.drewN (h : d.Ok w) (k : Nat) : d.Ok (w.drewN k) := ⟨h.rd.drewN k, h.cap⟩
theorem Dat.Ok.alloc (h : d.Ok w) (o : Obj) : d.Ok (w.alloc o) := ⟨h.rd.alloc o, h.cap⟩
end

/-! ### cells one behind the other -/
theorem flat_len {α : Type} (f : α → List Value) (k : Nat) (hf : ∀ a, (f a).length = k) (es : List α) : (es.flatMap f).length = es.length * k := by
  induction es with
  | nil => simp
  | cons a r ih => rw [List.flatMap_cons, List.length_append, hf, ih, List.length_cons, Nat.add_mul, Nat.one_mul, Nat.add_comm]
theorem flat_get {α : Type} (f : α → List Value) (k : Nat) (hf : ∀ a, (f a).length = k) : ∀ (es : List α) (j i : Nat) (e : α), es[j]? = some e → i < k → (es.flatMap f)[j * k + i]? = (f e)[i]?
  | [], j, i, e, he, _ => by simp at he
  | a :: r, 0, i, e, he, hi => by
    simp at he
    subst he
    rw [List.flatMap_cons, Nat.zero_mul, Nat.zero_add, List.getElem?_append_left (by rw [hf]; exact hi)]
  | a :: r, j + 1, i, e, he, hi => by
    have he2 : r[j]? = some e := by simpa using he
    rw [List.flatMap_cons, List.getElem?_append_right (by rw [hf, Nat.add_mul]; omega), hf, Nat.add_mul, Nat.one_mul, show j * k + k + i - k = j * k + i by omega]
    exact flat_get f k hf r j i e he2 hi
theorem flat_snoc {α : Type} (f : α → List Value) (es : List α) (e : α) : (es ++ [e]).flatMap f = es.flatMap f ++ f e := by simp

/-- The slice at A of n records of k cells each reads as the cells cs. -/
structure Row (w : World) (k : Nat) (A : Option Addr) (n : Nat) (cs : List Value) : Prop where
  len : cs.length = n * k
  lies : 0 < n → ∃ b off, A = some ⟨b, off, none⟩ ∧ b < w.heap.size ∧ ∀ (j : Nat) (u : Value), cs[j]? = some u → w.cell? ⟨b, off + j, none⟩ = some u

section
variable {w w' : World} {k n : Nat} {A : Option Addr} {cs : List Value}
theorem Row.keep (h : Row w k A n cs) (hs : w.heap.size ≤ w'.heap.size) (hk : ∀ i, i < w.heap.size → w'.heap[i]? = w.heap[i]?) : Row w' k A n cs :=
  ⟨h.len, fun hn => by
    obtain ⟨b, off, e, hb, hc⟩ := h.lies hn
    exact ⟨b, off, e, by omega, fun j u hu => (World.cell?_of_block (a := ⟨b, off + j, none⟩) (hk b hb)).trans (hc j u hu)⟩⟩
theorem Row.below (h : Row w k A n cs) (hb : Below w.heap.size w w') : Row w' k A n cs := h.keep hb.size hb.block
theorem Row.drewN (h : Row w k A n cs) (m : Nat) : Row (w.drewN m) k A n cs := ⟨h.len, h.lies⟩
theorem Row.alloc (h : Row w k A n cs) (o : Obj) : Row (w.alloc o) k A n cs := h.keep (by simp) fun i hi => Below.heap_alloc w o i hi
theorem Row.nil : Row w k A 0 [] := ⟨by simp, fun h => absurd h (by omega)⟩
theorem Row.reads (h : Row w k A n cs) : Reads w w.heap.size k A n cs :=
  ⟨h.len, fun hn => by
    obtain ⟨b, off, rfl, hb, hc⟩ := h.lies hn
    refine ⟨_, rfl, hb, fun j u hu => ?_⟩
    have hx2 : ((⟨b, off, none⟩ : Addr).add j) = ⟨b, off + j, none⟩ := by unfold Addr.add; split <;> simp_all
    rw [hx2]
    exact hc j u hu⟩
theorem Row.of_own {base e c : Nat} (h : w.ownsRow base e k (.slice A n c) n cs) : Row w k A n cs := by
  refine ⟨h.1, fun hn => ?_⟩
  obtain ⟨g, cap, hv, _, hlt⟩ := h.form hn
  have hA : A = some ⟨g, 0, none⟩ := by injection hv
  subst hA
  refine ⟨g, 0, rfl, hlt, fun j u hu => ?_⟩
  have := h.cells (g := g) rfl j u hu
  have hx : ((⟨g, 0, none⟩ : Addr).add j) = ⟨g, 0 + j, none⟩ := by unfold Addr.add; split <;> simp_all
  rw [hx] at this
  exact this
end

/-- A slice of files, a slice of operations, in memory. -/
structure SlF (w : World) (A : Option Addr) (n : Nat) (es : List Ent) : Prop where
  len : es.length = n
  row : Row w 2 A n (es.flatMap Ent.cells)
  each : ∀ e ∈ es, e.d.Ok w
structure SlO (w : World) (A : Option Addr) (n : Nat) (os : List OpE) : Prop where
  len : os.length = n
  row : Row w 4 A n (os.flatMap OpE.cells)
  each : ∀ o ∈ os, o.d.Ok w

section
variable {w w' : World} {n : Nat} {A : Option Addr} {es : List Ent} {os : List OpE}
theorem SlF.keep (h : SlF w A n es) (hs : w.heap.size ≤ w'.heap.size) (hk : ∀ i, i < w.heap.size → w'.heap[i]? = w.heap[i]?) : SlF w' A n es :=
  ⟨h.len, h.row.keep hs hk, fun e he => (h.each e he).keep hs hk⟩
theorem SlF.below (h : SlF w A n es) (hb : Below w.heap.size w w') : SlF w' A n es := h.keep hb.size hb.block
theorem SlF.drewN (h : SlF w A n es) (m : Nat) : SlF (w.drewN m) A n es := ⟨h.len, h.row.drewN m, fun e he => (h.each e he).drewN m⟩
theorem SlF.nil : SlF w A 0 [] := ⟨rfl, Row.nil, by simp⟩
theorem SlO.keep (h : SlO w A n os) (hs : w.heap.size ≤ w'.heap.size) (hk : ∀ i, i < w.heap.size → w'.heap[i]? = w.heap[i]?) : SlO w' A n os :=
  ⟨h.len, h.row.keep hs hk, fun e he => (h.each e he).keep hs hk⟩
theorem SlO.below (h : SlO w A n os) (hb : Below w.heap.size w w') : SlO w' A n os := h.keep hb.size hb.block
theorem SlO.drewN (h : SlO w A n os) (m : Nat) : SlO (w.drewN m) A n os := ⟨h.len, h.row.drewN m, fun e he => (h.each e he).drewN m⟩
theorem SlO.nil : SlO w A 0 [] := ⟨rfl, Row.nil, by simp⟩
/-- The file at place j, its two cells. -/
theorem SlF.at_ {j : Nat} (h : SlF w A n es) (hj : j < n) : ∃ (b off : Nat) (e : Ent), A = some ⟨b, off, none⟩ ∧ b < w.heap.size ∧ Hid (es[j]? = some e) ∧ Hid (e.d.Ok w) ∧
    w.cell? ⟨b, off + j * 2, none⟩ = some (.string e.nm) ∧ w.cell? ⟨b, off + j * 2 + 1, none⟩ = some (.slice e.d.A e.d.n e.d.c) := by
  obtain ⟨b, off, rfl, hb, hc⟩ := h.row.lies (by omega)
  have hl : j < es.length := by have := h.len; omega
  have he : es[j]? = some es[j] := List.getElem?_eq_getElem hl
  refine ⟨b, off, es[j], rfl, hb, he, h.each _ (List.getElem_mem hl), ?_, ?_⟩
  · exact hc (j * 2) _ (flat_get Ent.cells 2 Ent.cells_len es j 0 _ he (by omega))
  · exact hc (j * 2 + 1) _ (flat_get Ent.cells 2 Ent.cells_len es j 1 _ he (by omega))
theorem SlO.at_ {j : Nat} (h : SlO w A n os) (hj : j < n) : ∃ (b off : Nat) (o : OpE), A = some ⟨b, off, none⟩ ∧ b < w.heap.size ∧ Hid (os[j]? = some o) ∧ Hid (o.d.Ok w) ∧
    w.cell? ⟨b, off + j * 4, none⟩ = some (.int .i64 o.kind) ∧ w.cell? ⟨b, off + j * 4 + 1, none⟩ = some (.string o.nm) ∧ w.cell? ⟨b, off + j * 4 + 2, none⟩ = some (.string o.to) ∧ w.cell? ⟨b, off + j * 4 + 3, none⟩ = some (.slice o.d.A o.d.n o.d.c) := by
  obtain ⟨b, off, rfl, hb, hc⟩ := h.row.lies (by omega)
  have hl : j < os.length := by have := h.len; omega
  have he : os[j]? = some os[j] := List.getElem?_eq_getElem hl
  refine ⟨b, off, os[j], rfl, hb, he, h.each _ (List.getElem_mem hl), ?_, ?_, ?_, ?_⟩
  · exact hc (j * 4) _ (flat_get OpE.cells 4 OpE.cells_len os j 0 _ he (by omega))
  · exact hc (j * 4 + 1) _ (flat_get OpE.cells 4 OpE.cells_len os j 1 _ he (by omega))
  · exact hc (j * 4 + 2) _ (flat_get OpE.cells 4 OpE.cells_len os j 2 _ he (by omega))
  · exact hc (j * 4 + 3) _ (flat_get OpE.cells 4 OpE.cells_len os j 3 _ he (by omega))
end
end Go.Proofs.YtlhcobkncceodaaGreatDoor
namespace Go.Proofs.YtlhcobkncceodaaGreatDoor
open Go.RowKit

def Blk (w : World) (b : Nat) (cs : Array Value) (t : TypeId) : Prop := w.heap[b]? = some (.cells cs t (0, 0))
section
variable {w w' : World} {b : Nat} {cs : Array Value} {t : TypeId}
theorem Blk.lt (h : Blk w b cs t) : b < w.heap.size := (Array.getElem?_eq_some_iff.1 h).1
theorem Blk.cell (h : Blk w b cs t) {i : Nat} {v : Value} (hv : cs[i]? = some v) : w.cell? ⟨b, i, none⟩ = some v := by simp [World.cell?, show w.heap[b]? = _ from h, hv]
theorem Blk.frozen (h : Blk w b cs t) (i : Nat) : w.frozen? ⟨b, i, none⟩ = false := by simp [World.frozen?, show w.heap[b]? = _ from h]
theorem Blk.new (w : World) (cs : Array Value) (t : TypeId) : Blk (w.alloc (.cells cs t)) w.heap.size cs t := World.alloc_heap_new w _
theorem Blk.keep (h : Blk w b cs t) (hk : w'.heap[b]? = w.heap[b]?) : Blk w' b cs t := hk.trans h
theorem Blk.below (h : Blk w b cs t) (hb : Below w.heap.size w w') : Blk w' b cs t := h.keep (hb.block b h.lt)
theorem Blk.alloc (h : Blk w b cs t) (o : Obj) : Blk (w.alloc o) b cs t := h.below (below_a1 w o)
theorem Blk.drew (h : Blk w b cs t) : Blk w.drew b cs t := h
theorem Blk.drewN (h : Blk w b cs t) (n : Nat) : Blk (w.drewN n) b cs t := h
theorem Blk.grown {row : Option Nat} (h : Blk w b cs t) (hg : w.grownBy w' row) (hr : row ≠ some b) : Blk w' b cs t := h.keep (hg.block b h.lt (fun e => hr e.symm))
theorem Blk.other (h : Blk w b cs t) {p : Addr} (hp : b ≠ p.block) (u : Value) : Blk (w.setCell p u) b cs t := h.keep (Below.heap_setCell w p u b hp)
theorem Blk.set (h : Blk w b cs t) (i : Nat) (u : Value) : Blk (w.setCell ⟨b, i, none⟩ u) b (cs.setIfInBounds i u) t := by
  have hlt := h.lt
  have h2 : w.heap[b]? = some (.cells cs t (0, 0)) := h
  unfold Blk World.setCell
  simp [Array.getElem?_modify, h2]
end
end Go.Proofs.YtlhcobkncceodaaGreatDoor
namespace Go.Proofs.YtlhcobkncceodaaGreatDoor
open Go.RowKit

theorem blk_drawn {w w' : World} {b g : Nat} {cs : Array Value} {t : TypeId} (h : Blk w b cs t) (hg : w.grownBy w' (some g)) (hb : g < b) : Blk w' b cs t := h.grown hg (fun e => by injection e; omega)
theorem Cur.put {W : World} {g b B : Nat} {A : Option Addr} {n c : Nat} {xs : List Nat} (h : Cur W g A n c xs) (hg : g < B) (hb : B ≤ b) (hA : 0 < n → ∀ b off sp, A = some ⟨b, off, sp⟩ → b < B) (i : Nat) (u : Value) : Cur (W.setCell ⟨b, i, none⟩ u) g A n c xs :=
  h.far (grown_setAt (World.grownBy.refl _ _) i u) (fun k e => by cases e; exact hb) hg hA
theorem grown_put {a W : World} {g b : Nat} (h : a.grownBy W (some g)) (hb : a.heap.size ≤ b) (i : Nat) (u : Value) : a.grownBy (W.setCell ⟨b, i, none⟩ u) (some g) :=
  grownBy_far h (grown_setAt (World.grownBy.refl _ _) i u) (fun k e => by cases e; exact hb)
end Go.Proofs.YtlhcobkncceodaaGreatDoor
namespace Go.Proofs.YtlhcobkncceodaaGreatDoor
open Go.RowKit

structure GE where
  f : Int
  t : Int
  w : Int
def GE.cells (e : GE) : List Value := [.int .i64 e.f, .int .i64 e.t, .int .i64 e.w]
def GE.v (e : GE) : Value := .agg #[.int .i64 e.f, .int .i64 e.t, .int .i64 e.w]
theorem GE.cells_len (e : GE) : e.cells.length = 3 := rfl
theorem GE.cells_one (e : GE) : ∀ u ∈ e.cells, u.oneCell' = true := by
  intro u hu
  simp [GE.cells] at hu
  rcases hu with rfl | rfl | rfl <;> rfl
/-- A slice of edges in memory. -/
structure SlG (w : World) (A : Option Addr) (n : Nat) (es : List GE) : Prop where
  len : es.length = n
  row : Row w 3 A n (es.flatMap GE.cells)
/-- A slice of numbers in memory. -/
def vi (xs : List Int) : List Value := xs.map (.int .i64)
theorem vi_len (xs : List Int) : (vi xs).length = xs.length := by simp [vi]
theorem vi_get (xs : List Int) (j : Nat) : (vi xs)[j]? = (xs[j]?).map (.int .i64) := by simp [vi]
theorem vi_append (xs ys : List Int) : vi (xs ++ ys) = vi xs ++ vi ys := by simp [vi]
theorem vi_one (xs : List Int) : ∀ u ∈ vi xs, u.oneCell' = true := by
  intro u hu
  simp only [vi, List.mem_map] at hu
  obtain ⟨n, _, rfl⟩ := hu
  rfl
structure SlI (w : World) (A : Option Addr) (n : Nat) (xs : List Int) : Prop where
  len : xs.length = n
  row : Row w 1 A n (vi xs)
section
variable {w w' : World} {n c lo e : Nat} {A : Option Addr} {es : List GE} {xs : List Int}
theorem SlG.keep (h : SlG w A n es) (hs : w.heap.size ≤ w'.heap.size) (hk : ∀ i, i < w.heap.size → w'.heap[i]? = w.heap[i]?) : SlG w' A n es := ⟨h.len, h.row.keep hs hk⟩
theorem SlG.below (h : SlG w A n es) (hb : Below w.heap.size w w') : SlG w' A n es := h.keep hb.size hb.block
theorem SlG.drewN (h : SlG w A n es) (m : Nat) : SlG (w.drewN m) A n es := ⟨h.len, h.row.drewN m⟩
theorem SlG.nil : SlG w A 0 [] := ⟨rfl, Row.nil⟩
theorem SlI.keep (h : SlI w A n xs) (hs : w.heap.size ≤ w'.heap.size) (hk : ∀ i, i < w.heap.size → w'.heap[i]? = w.heap[i]?) : SlI w' A n xs := ⟨h.len, h.row.keep hs hk⟩
theorem SlI.below (h : SlI w A n xs) (hb : Below w.heap.size w w') : SlI w' A n xs := h.keep hb.size hb.block
theorem SlI.drewN (h : SlI w A n xs) (m : Nat) : SlI (w.drewN m) A n xs := ⟨h.len, h.row.drewN m⟩
theorem SlI.nil : SlI w A 0 [] := ⟨rfl, Row.nil⟩
/-- The edge at place j, its three cells. -/
theorem SlG.at_ {j : Nat} (h : SlG w A n es) (hj : j < n) : ∃ (b off : Nat) (e : GE), A = some ⟨b, off, none⟩ ∧ b < w.heap.size ∧ Hid (es[j]? = some e) ∧
    w.cell? ⟨b, off + j * 3, none⟩ = some (.int .i64 e.f) ∧ w.cell? ⟨b, off + j * 3 + 1, none⟩ = some (.int .i64 e.t) ∧ w.cell? ⟨b, off + j * 3 + 2, none⟩ = some (.int .i64 e.w) := by
  obtain ⟨b, off, rfl, hb, hc⟩ := h.row.lies (by omega)
  have hl : j < es.length := by have := h.len; omega
  have he : es[j]? = some es[j] := List.getElem?_eq_getElem hl
  refine ⟨b, off, es[j], rfl, hb, he, ?_, ?_, ?_⟩
  · exact hc (j * 3) _ (flat_get GE.cells 3 GE.cells_len es j 0 _ he (by omega))
  · exact hc (j * 3 + 1) _ (flat_get GE.cells 3 GE.cells_len es j 1 _ he (by omega))
  · exact hc (j * 3 + 2) _ (flat_get GE.cells 3 GE.cells_len es j 2 _ he (by omega))
theorem SlI.at_ {j : Nat} (h : SlI w A n xs) (hj : j < n) : ∃ (b off : Nat) (x : Int), A = some ⟨b, off, none⟩ ∧ b < w.heap.size ∧ Hid (xs[j]? = some x) ∧ w.cell? ⟨b, off + j, none⟩ = some (.int .i64 x) := by
  obtain ⟨b, off, rfl, hb, hc⟩ := h.row.lies (by omega)
  have hl : j < xs.length := by have := h.len; omega
  have he : xs[j]? = some xs[j] := List.getElem?_eq_getElem hl
  exact ⟨b, off, xs[j], rfl, hb, he, hc j _ (by rw [vi_get, he]; rfl)⟩
theorem SlG.of_own (h : w.ownsRow lo e 3 (.slice A n c) n (es.flatMap GE.cells)) (hl : es.length = n) : SlG w A n es := ⟨hl, Row.of_own h⟩
theorem SlI.of_own (h : w.ownsRow lo e 1 (.slice A n c) n (vi xs)) : SlI w A n xs := ⟨by have := h.1; rw [vi_len] at this; omega, Row.of_own h⟩
end
theorem g_chain {w W W' : World} (h : Below w.heap.size w W) (k : Below W.heap.size W W') : Below w.heap.size w W' := h.trans (k.mono h.size)

/-! ### a row that is laid record by record -/
theorem g_rep {α : Type} (f : α → List Value) (z : α) (k : Nat) (hf : ∀ a, (f a).length = k) (hk : 0 < k) (cs : Array Value) (h : cs.toList = f z) (n : Nat) : (madeCells cs (n * k)).toList = (List.replicate n z).flatMap f := by
  have hs : cs.size = k := by rw [← Array.length_toList, h, hf]
  apply List.ext_getElem?
  intro i
  by_cases hi : i < n * k
  · have hj : i / k < n := Nat.div_lt_of_lt_mul (by rw [Nat.mul_comm]; exact hi)
    have hr : i % k < k := Nat.mod_lt _ hk
    have e := flat_get f k hf (List.replicate n z) (i / k) (i % k) z (by simp [hj]) hr
    rw [show i / k * k + i % k = i by rw [Nat.mul_comm]; exact Nat.div_add_mod i k] at e
    rw [e]
    simp only [madeCells, Array.toList_map, Array.toList_range, List.getElem?_map, List.getElem?_range hi, Option.map_some, hs]
    rw [← h, Array.getElem?_toList, getElem!_pos cs (i % k) (by omega), Array.getElem?_eq_getElem (by omega)]
  · rw [List.getElem?_eq_none (by simp [madeCells]; omega), List.getElem?_eq_none (by rw [flat_len f k hf]; simp; omega)]
theorem g_take {α : Type} (es : List α) (k : Nat) (e : α) (h : es[k]? = some e) : es.take (k + 1) = es.take k ++ [e] := by
  obtain ⟨hk, rfl⟩ := List.getElem?_eq_some_iff.1 h
  exact List.take_succ_eq_append_getElem hk
theorem g_own_at {w : World} {lo t size n c : Nat} {A : Option Addr} {cs : List Value} (h : w.ownsRow lo t size (.slice A n c) n cs) (hn : 0 < n) : ∃ g, A = some ⟨g, 0, none⟩ := by
  obtain ⟨g, cap, hv, _⟩ := h.form hn
  injection hv with hv
  exact ⟨g, hv⟩
end Go.Proofs.YtlhcobkncceodaaGreatDoor
namespace Go.Proofs.YtlhcobkncceodaaGreatDoor
open Go.RowKit

theorem Tryz.infoInt : (Tryz.prog.info? 3).map (fun i => (i.zero, i.size, i.bytes)) = some (some (.int .i64 0), 1, 8) := by kernel_rfl

def GNum (w : World) (b : Int) (e : Ending) (w' : World) : Prop := e = .returned (.int .i64 b) ∧ Below w.heap.size w w'
def GTell (w : World) (b : Bool) (e : Ending) (w' : World) : Prop := e = .returned (.bool b) ∧ Below w.heap.size w w'
theorem g_int {k : IntKind} {a b : Int} (h : a = b) : Ending.returned (.int k a) = .returned (.int k b) := by rw [h]
theorem g_bool {a b : Bool} (h : a = b) : Ending.returned (.bool a) = .returned (.bool b) := by rw [h]

def zeroG : GE := ⟨0, 0, 0⟩
theorem own_lowG {w : World} {lo e size n : Nat} {v : Value} {xs : List Value} (h : w.ownsRow lo e size v n xs) {p : Addr} (hp : p.block < lo) (u : Value) : (w.setCell p u).ownsRow lo e size v n xs := by
  obtain ⟨h1, h2⟩ := h
  refine ⟨h1, ?_⟩
  rcases h2 with h2 | ⟨g, cap, cur, e, hb, hg, r⟩
  · exact .inl h2
  · exact .inr ⟨g, cap, cur, e, hb, (Below.heap_setCell w p u g (by omega)).trans hg, r⟩
theorem own_monoG {w : World} {lo lo' e size n : Nat} {v : Value} {xs : List Value} (h : w.ownsRow lo e size v n xs) (hl : lo' ≤ lo) : w.ownsRow lo' e size v n xs := by
  obtain ⟨h1, h2⟩ := h
  refine ⟨h1, ?_⟩
  rcases h2 with h2 | ⟨g, cap, cur, e, hb, r⟩
  · exact .inl h2
  · exact .inr ⟨g, cap, cur, e, by omega, r⟩

end Go.Proofs.YtlhcobkncceodaaGreatDoor
namespace Go.Proofs.YtlhcobkncceodaaGreatDoor
open Go.RowKit

theorem grown_below {a b c : World} {row : Option Nat} (h : a.grownBy b row) (k : Below b.heap.size b c) : a.grownBy c row := grownBy_trans h (grownBy_of_below k row)
theorem grown_drew {a b : World} {row : Option Nat} (h : a.grownBy b row) : a.grownBy b.drew row := ⟨h.os, h.tape, h.output, h.size, h.block⟩

/-- A block of two cells that may be written. -/
structure DBox (w : World) (b : Nat) (v0 v1 : Value) : Prop where
  lt : b < w.heap.size
  c0 : w.cell? ⟨b, 0, none⟩ = some v0
  c1 : w.cell? ⟨b, 1, none⟩ = some v1
  f : ∀ i, w.frozen? ⟨b, i, none⟩ = false
section
variable {w w' : World} {b : Nat} {v0 v1 : Value}
theorem DBox.keep (h : DBox w b v0 v1) (hs : w.heap.size ≤ w'.heap.size) (hk : w'.heap[b]? = w.heap[b]?) : DBox w' b v0 v1 :=
  ⟨Nat.lt_of_lt_of_le h.lt hs, (World.cell?_of_block (a := ⟨b, 0, none⟩) hk).trans h.c0, (World.cell?_of_block (a := ⟨b, 1, none⟩) hk).trans h.c1, fun i => (World.frozen?_of_block (a := ⟨b, i, none⟩) hk).trans (h.f i)⟩
theorem DBox.below (h : DBox w b v0 v1) (hb : Below w.heap.size w w') : DBox w' b v0 v1 := h.keep hb.size (hb.block b h.lt)
theorem DBox.grown {row : Option Nat} (h : DBox w b v0 v1) (hg : w.grownBy w' row) (hr : row ≠ some b) : DBox w' b v0 v1 := h.keep hg.size (hg.block b h.lt (fun e => hr e.symm))
theorem DBox.new (w : World) (v0 v1 : Value) (t : TypeId) : DBox (w.alloc (.cells #[v0, v1] t)) w.heap.size v0 v1 := ⟨by simp, by simp, by simp, fun i => by simp⟩
theorem DBox.alloc (h : DBox w b v0 v1) (o : Obj) : DBox (w.alloc o) b v0 v1 := h.below (below_a1 w o)
theorem DBox.drew (h : DBox w b v0 v1) : DBox w.drew b v0 v1 := ⟨h.lt, h.c0, h.c1, h.f⟩
theorem DBox.far (h : DBox w b v0 v1) {p : Addr} (hp : b ≠ p.block) (u : Value) : DBox (w.setCell p u) b v0 v1 := h.keep (by simp) (Below.heap_setCell w p u b hp)
theorem DBox.set1 (h : DBox w b v0 v1) (u : Value) : DBox (w.setCell ⟨b, 1, none⟩ u) b v0 u :=
  ⟨by simpa using h.lt, by rw [World.cell?_setCell_other _ _ _ _ (by simp)]; exact h.c0, World.cell?_setCell_same' _ _ _ (by rw [h.c1]; rfl), fun i => by simpa using h.f i⟩
end

theorem three_reads (w : World) (a b c : Int) (t : TypeId) (g : Nat) (hg : g = w.heap.size) : Reads (w.alloc (.cells #[.int .i64 a, .int .i64 b, .int .i64 c] t)) (g + 1) 3 (some ⟨g, 0, none⟩) 1 [.int .i64 a, .int .i64 b, .int .i64 c] := by
  subst hg
  refine ⟨rfl, fun _ => ⟨_, rfl, by simp, fun j x hj => ?_⟩⟩
  match j, hj with
  | 0, hj => simp at hj; subst hj; simp [Addr.add]
  | 1, hj => simp at hj; subst hj; simp [Addr.add]
  | 2, hj => simp at hj; subst hj; simp [Addr.add]
theorem own_formG {w : World} {base e size n : Nat} {v : Value} {xs : List Value} (h : w.ownsRow base e size v n xs) : ∃ A c, v = .slice A n c ∧ n ≤ c := by
  rcases h.2 with ⟨rfl, rfl⟩ | ⟨g, cap, _, rfl, _, _, hc, _⟩
  · exact ⟨_, _, rfl, Nat.le_refl _⟩
  · exact ⟨_, _, rfl, hc⟩
end Go.Proofs.YtlhcobkncceodaaGreatDoor
namespace Go.Proofs.YtlhcobkncceodaaGreatDoor
open Go.RowKit

theorem Tryz.infoEdge : (Tryz.prog.info? 113).map (fun i => (i.zero, i.size, i.bytes)) = some (some (.agg #[.int .i64 0, .int .i64 0, .int .i64 0]), 3, 24) := by kernel_rfl

end Go.Proofs.YtlhcobkncceodaaGreatDoor
