/- Rows of entries. -/
import Derived.Test.YtaafcmgkmdbefaaU8
import Derived.Test.YtaafcmgkmdbefaaHeld
import Derived.Test.YtaafcmgkmdbefaaOpenRows
import Derived.Outline
namespace Go.Proofs.Ytaafcmgkmdbefaa
open Go.RowKit
set_option linter.unusedVariables false
set_option maxRecDepth 100000

structure En where
  id : Nat
  off : Nat
  len : Nat
  run : Nat
deriving DecidableEq, Inhabited
def En.cs (s : En) : List Value := [.int .u64 (s.id : Int), .int .u64 (s.off : Int), .int .u64 (s.len : Int), .int .u64 (s.run : Int)]
def En.ok (s : En) : Prop := s.id < 18446744073709551616 ∧ s.off < 18446744073709551616 ∧ s.len < 18446744073709551616 ∧ s.run < 18446744073709551616
def ents (l : List En) : List Value := l.flatMap En.cs
theorem eninfo : (Try.prog.info? 39).map (fun i => (i.zero, i.size, i.bytes)) = some (some (.agg #[.int .u64 0, .int .u64 0, .int .u64 0, .int .u64 0]), 4, 32) := by kernel_rfl
theorem ents_length (l : List En) : (ents l).length = l.length * 4 := flat_len En.cs 4 (fun _ => rfl) l
theorem ents_append (l m : List En) : ents (l ++ m) = ents l ++ ents m := by simp [ents]
theorem ents_one (l : List En) : ∀ u ∈ ents l, u.oneCell' = true := by
  intro u hu
  simp only [ents, List.mem_flatMap] at hu
  obtain ⟨p, _, hp⟩ := hu
  simp [En.cs] at hp
  rcases hp with rfl | rfl | rfl | rfl <;> rfl
/-- The slice that begins at a reads as the entries l. -/
def EAt (w : World) (B : Nat) (a : Option Addr) (l : List En) : Prop := Vals w B 4 a l.length (ents l)
theorem EAt.at {w : World} {B : Nat} {a : Option Addr} {l : List En} (h : EAt w B a l) (i : Nat) (hi : i < l.length) : ∃ b off, a = some ⟨b, off, none⟩ ∧ b < B ∧
    w.cell? ⟨b, off + i * 4, none⟩ = some (.int .u64 (l[i].id : Int)) ∧ w.cell? ⟨b, off + i * 4 + 1, none⟩ = some (.int .u64 (l[i].off : Int)) ∧ w.cell? ⟨b, off + i * 4 + 2, none⟩ = some (.int .u64 (l[i].len : Int)) ∧ w.cell? ⟨b, off + i * 4 + 3, none⟩ = some (.int .u64 (l[i].run : Int)) := by
  have hl := h.1
  obtain ⟨b, off, rfl, hb, hc⟩ := h.2 (by omega)
  have g := fun j hj => flat_get En.cs 4 (fun _ => rfl) l i hi j hj
  refine ⟨b, off, rfl, hb, ?_, ?_, ?_, ?_⟩
  · rw [hc (i * 4) (by omega), ← Nat.add_zero (i * 4)]; exact g 0 (by omega)
  · rw [Nat.add_assoc, hc (i * 4 + 1) (by omega)]; exact g 1 (by omega)
  · rw [Nat.add_assoc, hc (i * 4 + 2) (by omega)]; exact g 2 (by omega)
  · rw [Nat.add_assoc, hc (i * 4 + 3) (by omega)]; exact g 3 (by omega)
theorem EAt.below {w w' : World} {B : Nat} {a : Option Addr} {l : List En} (h : EAt w B a l) (hb : Below B w w') : EAt w' B a l := Vals.below h hb
/-- v is a slice that reads as the entries l. -/
def RdE (w : World) (B : Nat) (v : Value) (l : List En) : Prop := ∃ a c, v = .slice a l.length c ∧ l.length ≤ c ∧ c ≤ maxLen ∧ EAt w B a l ∧ ∀ s ∈ l, s.ok
theorem RdE.below {w w' : World} {B : Nat} {v : Value} {l : List En} (h : RdE w B v l) (hb : Below B w w') : RdE w' B v l := by
  obtain ⟨a, c, h1, h2, h3, h4, h5⟩ := h
  exact ⟨a, c, h1, h2, h3, h4.below hb, h5⟩
theorem RdE.more {w : World} {B B' : Nat} {v : Value} {l : List En} (h : RdE w B v l) (hB : B ≤ B') : RdE w B' v l := by
  obtain ⟨a, c, h1, h2, h3, h4, h5⟩ := h
  exact ⟨a, c, h1, h2, h3, Vals.more h4 hB, h5⟩
def OwnE (w : World) (base : Nat) (v : Value) (l : List En) : Prop := w.ownsRow base 39 4 v l.length (ents l)
theorem OwnE.nil_ (w : World) (base : Nat) : OwnE w base (.slice none 0 0) [] := ⟨rfl, .inl ⟨rfl, rfl⟩⟩
theorem OwnE.rd {w : World} {base : Nat} {v : Value} {l : List En} (h : OwnE w base v l) (hk : ∀ s ∈ l, s.ok) : RdE w w.heap.size v l := by
  obtain ⟨a, c, h1, h2, h3, h4⟩ := Vals.of_own h
  exact ⟨a, c, h1, h2, h3, h4, hk⟩
theorem OwnE.only {S : Nat → Prop} {w w' : World} {base : Nat} {v : Value} {l : List En} (h : OwnE w base v l) (ho : Only S w w') (hn : ∀ b, v.ownBlock = some b → ¬ S b) : OwnE w' base v l := own_only h ho hn
theorem OwnE.below {w w' : World} {base : Nat} {v : Value} {l : List En} (h : OwnE w base v l) (hb : Below w.heap.size w w') : OwnE w' base v l :=
  h.only (Only.of_below hb (fun _ => False)) (fun _ _ h => h)
theorem OwnE.lt {w : World} {base : Nat} {v : Value} {l : List En} (h : OwnE w base v l) : ∀ k, v.ownBlock = some k → base ≤ k ∧ k < w.heap.size := fun k hk => World.ownsRow.lt h k hk
theorem below_then {B : Nat} {w w1 W : World} (h : Below B w w1) (h2 : Below w1.heap.size w1 W) (hB : B ≤ w1.heap.size) : Below B w W := h.trans (h2.mono hB)
theorem below_drawnE {B : Nat} {w w' : World} (h : Below B w w') (n : Nat) : Below B w (w'.drewN n) := ⟨h.os, h.tape, h.output, h.size, h.block⟩

/-- May an entry stand behind another (or first)? -/
def oneE (e : En) : Bool := decide (e.id < 4611686018427387904 ∧ e.run < 4294967296 ∧ 1 ≤ e.len ∧ e.len ≤ 4194304 ∧ e.off ≤ 4194304)
def aftE (p : Option En) (e : En) : Bool := match p with
  | none => true
  | some q => decide (q.id + max 1 q.run ≤ e.id)
def rgt : Option En → List En → Bool
  | _, [] => true
  | p, e :: l => oneE e && (aftE p e && rgt (some e) l)
def rightE (l : List En) : Bool := decide (1 ≤ l.length ∧ l.length ≤ 65536) && rgt none l
end Go.Proofs.Ytaafcmgkmdbefaa
