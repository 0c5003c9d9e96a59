/- DERIVED. Plain mathematics and walks, laid together (9). -/
import Derived.WalkKit
import Derived.Lib.Builder
import Derived.Lib.UnsafeStr
import Derived.Lib.AppendStr
import Derived.Lib.ConvBytes
import Derived.Lib.AtoiErrMem
import Derived.Deep.MidRow
import Derived.ScopeJumps
import Derived.Test.YtnpifgcgjgddoaaGreatDoorProg
import Derived.Test.YtnpifgcgjgddoaaGreatDoorPw08
set_option maxRecDepth 100000
set_option maxHeartbeats 8000000
namespace Go.Proofs.YtnpifgcgjgddoaaGreatDoor.Q
open Go.RowKit
abbrev Rd (α : Type) := Sum α (Int × Int)
def chr (s : ByteArray) (i : Nat) : Int := if h : i < s.size then (s[i].toNat : Int) else -1
theorem zai {s : ByteArray} {i : Nat} (h : i < s.size) : chr s i = (s[i].toNat : Int) := by unfold chr; rw [dif_pos h]
theorem zas {s : ByteArray} {i : Nat} (h : ¬ i < s.size) : chr s i = -1 := by unfold chr; rw [dif_neg h]
theorem zdf (s : ByteArray) (i : Nat) : -1 <= chr s i /\ chr s i <= 255 := by
 unfold chr
 split
 ·have := s[i].toNat_lt; omega
 ·omega
theorem zaD {s : ByteArray} {i : Nat} (h : 0 <= chr s i) : i < s.size := by
 by_cases hi : i < s.size
 ·exact hi
 ·rw [zas hi] at h; omega
theorem zog {s : ByteArray} {i : Nat} (h : i < s.size) : 0 <= chr s i /\ chr s i <= 255 := by
 rw [zai h]; have := s[i].toNat_lt; omega
def zbj (c : Int) : Int := if 48 <= c /\ c <= 57 then c - 48 else if 97 <= c /\ c <= 102 then c - 87 else -1
theorem zbJ (c : Int) : -1 <= zbj c /\ zbj c <= 15 := by unfold zbj; split <;> (try split) <;> omega
theorem zpJ {c : Int} (h : 0 <= zbj c) : 0 <= c := by
 unfold zbj at h; split at h
 ·omega
 ·split at h <;> omega
def za3 (s : ByteArray) (i : Nat) : Option (Int × Nat) :=
 if 0 <= zbj (chr s (i + 2)) /\ 0 <= zbj (chr s (i + 3)) then some (16 * zbj (chr s (i + 2)) + zbj (chr s (i + 3)), i + 4) else none
def zan (s : ByteArray) (i : Nat) : Option (Int × Nat) :=
 if chr s (i + 1) = 110 then some (10, i + 2) else if chr s (i + 1) = 114 then some (13, i + 2) else if chr s (i + 1) = 116 then some (9, i + 2) else
 if chr s (i + 1) = 92 ∨ chr s (i + 1) = 39 ∨ chr s (i + 1) = 34 then some (chr s (i + 1), i + 2) else
 if chr s (i + 1) = 120 then za3 s i else none
def zaN (s : ByteArray) (i : Nat) : Rd (Int × Nat) :=
 if chr s i = 92 then (match zan s i with | none => .inr (i, 21) | some p => .inl p) else
 if chr s i < 32 ∨ chr s i = 127 then .inr (i, 22) else .inl (chr s i, i + 1)
def za4 (s : ByteArray) (m : Int) : Nat -> Nat -> List Int -> Rd (List Int × Nat)
 | 0, i, _ => .inr (i, 22)
 | f + 1, i, l => if chr s i = m then .inl (l, i + 1) else if s.size <= i then .inr (s.size, 22) else
  match zaN s i with
  | .inr (a, c) => .inr (a, c)
  | .inl (b, n) => za4 s m f n (l ++ [b])
def zbZ (s : ByteArray) (i : Int) : Rd (List Int × Nat) :=
 if 65536 < s.size then .inr (0, 2) else
 if i < 0 ∨ (s.size : Int) < i then .inr (0, 1) else
 if chr s i.toNat = 39 ∨ chr s i.toNat = 34 then za4 s (chr s i.toNat) (s.size + 1) (i.toNat + 1) [] else .inr (i, 20)
theorem zfy {s : ByteArray} {i : Nat} {b : Int} {n : Nat} (h : za3 s i = some (b, n)) : 0 <= b /\ b <= 255 /\ i < n /\ n <= s.size := by
 unfold za3 at h
 split at h
 ·next q =>
  cases h
  have h1 := zbJ (chr s (i + 2)); have h2 := zbJ (chr s (i + 3))
  have h3 := zaD (zpJ q.2)
  exact ⟨by omega, by omega, by omega, by omega⟩
 ·cases h
theorem zfz {s : ByteArray} {i : Nat} {b : Int} {n : Nat} (h : zan s i = some (b, n)) : 0 <= b /\ b <= 255 /\ i < n /\ n <= s.size := by
 unfold zan at h
 have hb := zdf s (i + 1)
 split at h
 ·next q => cases h; have := zaD (s := s) (i := i + 1) (by omega); omega
 ·split at h
  ·next q => cases h; have := zaD (s := s) (i := i + 1) (by omega); omega
  ·split at h
   ·next q => cases h; have := zaD (s := s) (i := i + 1) (by omega); omega
   ·split at h
    ·next q => cases h; have := zaD (s := s) (i := i + 1) (by omega); omega
    ·split at h
     ·exact zfy h
     ·cases h
theorem zgF {s : ByteArray} {i : Nat} {b : Int} {n : Nat} (h : zaN s i = .inl (b, n)) : 0 <= b /\ b <= 255 /\ i < n /\ n <= s.size := by
 unfold zaN at h
 split at h
 ·split at h
  ·cases h
  ·next p hp => cases h; exact zfz hp
 ·split at h
  ·cases h
  ·next q => cases h; have := zdf s i; have := zaD (s := s) (i := i) (by omega); omega
theorem zje {s : ByteArray} {i : Nat} {a c : Int} (h : zaN s i = .inr (a, c)) : a = i /\ (c = 21 ∨ c = 22) := by
 unfold zaN at h
 split at h
 ·split at h
  ·cases h; exact ⟨rfl, .inl rfl⟩
  ·cases h
 ·split at h
  ·cases h; exact ⟨rfl, .inr rfl⟩
  ·cases h
theorem zfl {s : ByteArray} {m : Int} {f i : Nat} {l : List Int} (h : chr s i = m) : za4 s m (f + 1) i l = .inl (l, i + 1) := by
 unfold za4; rw [if_pos h]
theorem zjf {s : ByteArray} {m : Int} {f i : Nat} {l : List Int} (h : s.size <= i) (hm : 0 <= m) : za4 s m (f + 1) i l = .inr (s.size, 22) := by
 unfold za4; rw [if_neg (by rw [zas (by omega)]; omega), if_pos h]
theorem zjg {s : ByteArray} {m : Int} {f i : Nat} {l : List Int} {a c : Int} (h : chr s i ≠ m) (hi : i < s.size) (hb : zaN s i = .inr (a, c)) : za4 s m (f + 1) i l = .inr (a, c) := by
 unfold za4; rw [if_neg h, if_neg (by omega), hb]
theorem zep {s : ByteArray} {m : Int} {f i : Nat} {l : List Int} {b : Int} {n : Nat} (h : chr s i ≠ m) (hi : i < s.size) (hb : zaN s i = .inl (b, n)) : za4 s m (f + 1) i l = za4 s m f n (l ++ [b]) := by
 rw [za4, if_neg h, if_neg (by omega), hb]
def zac (l : List Int) : ByteArray := l.foldl (fun r n => r.push (UInt8.ofNat n.toNat)) ByteArray.empty
theorem za0 (l : List Int) : (zac l).data.toList = l.map (fun n => UInt8.ofNat n.toNat) := by
 have key : ∀ (l : List Int) (s : ByteArray), (l.foldl (fun r n => r.push (UInt8.ofNat n.toNat)) s).data.toList = s.data.toList ++ l.map (fun n => UInt8.ofNat n.toNat) := by
  intro l
  induction l with
  | nil => intro s; simp
  | cons b l ih => intro s; rw [List.foldl_cons, ih]; simp [ByteArray.push]
 have := key l ByteArray.empty
 simpa [zac] using this
def byV : Rd (Int × Nat) -> Value
 | .inl (b, n) => .tuple #[.int .u8 b, .int .i64 n, .int .i64 0]
 | .inr (_, c) => .tuple #[.int .u8 0, .int .i64 0, .int .i64 c]
def esV : Option (Int × Nat) -> Value
 | some (b, n) => .tuple #[.int .u8 b, .int .i64 n, .int .i64 0]
 | none => .tuple #[.int .u8 0, .int .i64 0, .int .i64 21]
def cuV : Rd (List Int × Nat) -> Value
 | .inl (l, n) => .tuple #[.string (zac l), .int .i64 n, .agg #[.int .i64 0, .int .i64 0]]
 | .inr (a, c) => .tuple #[.string ⟨#[]⟩, .int .i64 0, .agg #[.int .i64 a, .int .i64 c]]
def zb4 (m : Int) : Int := if m < 10 then 48 + m else 87 + m
def shB (b : Int) : List Int :=
 if b = 10 then [92, 110] else if b = 13 then [92, 114] else if b = 9 then [92, 116] else if b = 39 ∨ b = 92 then [92, b] else
 if 32 <= b /\ b <= 126 then [b] else [92, 120, zb4 (b / 16), zb4 (b % 16)]
def byl (s : ByteArray) : List Int := s.data.toList.map fun c => (c.toNat : Int)
def qTo (s : ByteArray) (k : Nat) : List Int := 39 :: ((byl s).take k).flatMap shB
def qT (s : ByteArray) : List Int := 39 :: (byl s).flatMap shB ++ [39]
def By (l : List Int) : Prop := ∀ n ∈ l, 0 <= n /\ n <= 255
theorem By.append {a b : List Int} (h : By a) (k : By b) : By (a ++ b) := fun n hn => by
 rcases List.mem_append.1 hn with h1 | h1
 ·exact h n h1
 ·exact k n h1
theorem By.nil : By [] := fun n hn => by cases hn
theorem By.cons {x : Int} {l : List Int} (hx : 0 <= x /\ x <= 255) (h : By l) : By (x :: l) := fun n hn => by
 rcases List.mem_cons.1 hn with rfl | h1
 ·exact hx
 ·exact h n h1
theorem zku {m : Int} (h0 : 0 <= m) (h1 : m < 16) : 48 <= zb4 m /\ zb4 m <= 102 := by unfold zb4; split <;> omega
theorem zkv {b : Int} (h0 : 0 <= b) (h1 : b <= 255) : By (shB b) := by
 have d1 := zku (m := b / 16) (by omega) (by omega)
 have d2 := zku (m := b % 16) (by omega) (by omega)
 unfold shB
 repeat' split
 all_goals
  intro n hn
  simp only [List.mem_cons, List.not_mem_nil, or_false] at hn
  omega
theorem zhy (b : Int) : 1 <= (shB b).length /\ (shB b).length <= 4 := by
 unfold shB
 repeat' split
 all_goals simp
theorem zoh (s : ByteArray) : By (byl s) := fun n hn => by
 unfold byl at hn
 obtain ⟨c, _, rfl⟩ := List.mem_map.1 hn
 have := c.toNat_lt
 omega
theorem zfP (s : ByteArray) : (byl s).length = s.size := by unfold byl; rw [List.length_map]; rfl
theorem zkw (s : ByteArray) (k : Nat) (h : k < s.size) : (byl s)[k]? = some (s[k].toNat : Int) := by
 unfold byl
 rw [List.getElem?_map, List.getElem?_eq_getElem (by simpa using h)]
 rfl
theorem zmx (s : ByteArray) (k : Nat) (h : k < s.size) : qTo s (k + 1) = qTo s k ++ shB (s[k].toNat : Int) := by
 unfold qTo
 have h2 := zkw s k h
 rw [List.take_add_one, h2, List.flatMap_append]
 simp
theorem zhz (s : ByteArray) (k : Nat) (h : s.size <= k) : qTo s k ++ [39] = qT s := by
 unfold qTo qT
 rw [List.take_of_length_le (by rw [zfP]; exact h)]
theorem zpK {l : List Int} (h : By l) : By (l.flatMap shB) := fun n hn => by
 obtain ⟨b, hb, h2⟩ := List.mem_flatMap.1 hn
 exact zkv (h b hb).1 (h b hb).2 n h2
theorem zfK (l : List Int) : l.length <= (l.flatMap shB).length /\ (l.flatMap shB).length <= 4 * l.length := by
 induction l with
 | nil => simp
 | cons b l ih => rw [List.flatMap_cons, List.length_append, List.length_cons]; have := zhy b; omega
theorem zhA (s : ByteArray) (k : Nat) : (qTo s k).length <= 4 * k + 1 /\ 1 <= (qTo s k).length := by
 unfold qTo
 have h := zfK ((byl s).take k)
 have h2 : ((byl s).take k).length <= k := List.length_take_le _ _
 rw [List.length_cons]
 omega
theorem zpL (s : ByteArray) : By (qT s) := (By.cons (by omega) (zpK (zoh s))).append (By.cons (by omega) By.nil)
theorem zij {l : List Int} (h : By l) : Lib.byteCells (l.map fun n => UInt8.ofNat n.toNat) = l.map (Value.int .u8) := by
 unfold Lib.byteCells
 rw [List.map_map]
 refine List.map_congr_left fun n hn => ?_
 have := h n hn
 show Value.int .u8 ((UInt8.ofNat n.toNat).toNat : Int) = _
 rw [UInt8.toNat_ofNat', Nat.mod_eq_of_lt (by omega)]
 congr 1
 omega
theorem zch (l : List Int) : zac l = ⟨(l.map fun n => UInt8.ofNat n.toNat).toArray⟩ := by
 have h := za0 l
 cases ht : zac l with
 | mk d =>
  rw [ht] at h
  cases d with
  | mk x => simp at h; rw [h]
theorem zfQ {l : List Int} (h : By l) : Lib.strCells (zac l) = l.map (Value.int .u8) := by
 rw [zch, <- zij h]; rfl
theorem zam (l : List Int) : (zac l).size = l.length := by
 rw [zch]; show (List.toArray _).size = _; simp
theorem zfm (s : ByteArray) : zac (byl s) = s := by
 rw [zch]
 unfold byl
 rw [List.map_map]
 have : (List.map ((fun n : Int => UInt8.ofNat n.toNat) ∘ fun c : UInt8 => (c.toNat : Int)) s.data.toList) = s.data.toList := by
  conv => rhs; rw [<- List.map_id s.data.toList]
  refine List.map_congr_left fun c _ => ?_
  simp
 rw [this]
def quV (s : ByteArray) : Value := if 65536 < s.size ∨ 65536 < (qT s).length then .tuple #[.string ⟨#[]⟩, .int .i64 2] else .tuple #[.string (zac (qT s)), .int .i64 0]
end Go.Proofs.YtnpifgcgjgddoaaGreatDoor.Q
namespace Go.Proofs.YtnpifgcgjgddoaaGreatDoor
open Go.RowKit
theorem zjh (s : ByteArray) (w : World) : (convert 9 55 (.string s)).run Tryz.prog w = .ok (.slice (some ⟨w.heap.size, 0, none⟩) s.size (grownCap w s.size 0 5)) (Lib.bytesWorld w 5 s) :=
 Lib.run_convert_string_bytes w 9 55 5 s Tryz.underlying9 Tryz.underlying55 Tryz.underlying5
theorem zji (s : ByteArray) (w : World) (c : Nat) : (convert 55 9 (.slice (some ⟨w.heap.size, 0, none⟩) s.size c)).run Tryz.prog (Lib.bytesWorld w 5 s) = .ok (.string s) (Lib.bytesWorld w 5 s) := by
 rw [run_convert_bytes_string _ 55 9 5 _ _ _ Tryz.underlying55 Tryz.underlying5 Tryz.underlying9]
 have h := run_bytesToString (P := Tryz.prog) (Lib.bytesWorld w 5 s) ⟨w.heap.size, 0, none⟩ s.size c (Q.byl s) ?_
 ·rw [h]; exact congrArg (fun x => Result.ok (Value.string x) _) (Q.zfm s)
 ·have h2 := run_loadCells_list (P := Tryz.prog) (w := Lib.bytesWorld w 5 s) ⟨w.heap.size, 0, none⟩ ((Q.byl s).map (Value.int .u8)) (fun j u hj => by
   rw [List.getElem?_map] at hj
   have hlt : j < s.size := by
    by_cases q : j < s.size
    ·exact q
    ·rw [List.getElem?_eq_none (by rw [Q.zfP]; omega)] at hj; cases hj
   rw [Q.zkw s j hlt] at hj
   cases hj
   have h3 := Lib.bytesWorld_cell w 5 s j hlt
   rw [Addr.add_lit, Nat.zero_add, h3]
   have : s.data.toList.getD j 0 = s[j] := by
    rw [List.getD_eq_getElem?_getD, List.getElem?_eq_getElem (by simpa using hlt)]; rfl
   rw [this])
  rwa [List.length_map, Q.zfP] at h2
theorem zfn (s : ByteArray) (w : World) : Calls Tryz.prog 136 #[.string s] w fun e w' => e = .returned (.string s) /\ Below w.heap.size w w' := by
 have hc1 := zjh s
 have hc2 := zji s
 go_enter Tryz.func136, Tryz.ntmps136
 go_wp2_with fail
 go_ret
 exact ⟨rfl, Lib.bytesWorld_below w 5 s⟩
def gtK (k : Int) : Int := if k = 4 then 999999 else if k = 13 ∨ k = 14 ∨ k = 15 then 50 else 0
theorem zdJ (k : Int) (w : World) : Calls Tryz.prog 138 #[.int .i64 k] w fun e w' => e = .returned (.int .i64 (gtK k)) /\ w' = w := by
 by_cases h4 : k = 4
 ·subst h4; go_enter Tryz.func138, Tryz.ntmps138; go_wp2_with fail; go_ret; exact ⟨rfl, rfl⟩
 by_cases h13 : k = 13
 ·subst h13; go_enter Tryz.func138, Tryz.ntmps138; go_wp2_with fail; go_ret; exact ⟨rfl, rfl⟩
 by_cases h14 : k = 14
 ·subst h14; go_enter Tryz.func138, Tryz.ntmps138; go_wp2_with fail; go_ret; exact ⟨rfl, rfl⟩
 by_cases h15 : k = 15
 ·subst h15; go_enter Tryz.func138, Tryz.ntmps138; go_wp2_with fail; go_ret; exact ⟨rfl, rfl⟩
 have HE : Hid (gtK k = 0) := by show gtK k = 0; unfold gtK; rw [if_neg h4, if_neg (by omega)]
 have v4 : (k == 4) = false := bF h4
 have v13 : (k == 13) = false := bF h13
 have v14 : (k == 14) = false := bF h14
 have v15 : (k == 15) = false := bF h15
 clear h4 h13 h14 h15
 go_enter Tryz.func138, Tryz.ntmps138
 go_wp2_with fail
 go_ret
 exact ⟨by rw [HE.out]; rfl, rfl⟩
theorem zcH (s : ByteArray) (base : Int) (hb : 0 <= base /\ base <= 16) (hs : s.size <= 7) (w : World) : Calls Tryz.prog 137 #[.string s, .int .i64 base] w fun e w' => e = .returned (.int .i64 (zbn s 0 base s.size)) /\ w' = w := by
 have HX : Hid (∀ k (h : k < s.size) w, Calls Tryz.prog 153 #[.string ⟨#[48, 49, 50, 51, 52, 53, 54, 55, 56, 57, 97, 98, 99, 100, 101, 102]⟩, .int .u8 (s[k].toNat : Int)] w fun e w' => e = .returned (.int .i64 (zbj (chr s k))) /\ w' = w) := fun k h w => by
  rw [zai h]
  exact zcf s[k] w
 have HB : Hid (∀ k, k <= 7 -> -268435456 <= zbn s 0 base k /\ zbn s 0 base k <= 268435456) := fun k hk => by
  have h1 := zo2 s 0 base hb k
  have h2 : (16 : Int) ^ k <= 16 ^ 7 := by
   have : (16 : Nat) ^ k <= 16 ^ 7 := Nat.pow_le_pow_right (by omega) hk
   exact_mod_cast this
  omega
 go_enter Tryz.func137, Tryz.ntmps137
 go_wp2_with fail
 go_loopw [5, 9] (fun v t wr => ∃ k : Nat, k <= s.size /\ t = .int .i64 k /\ v = .int .i64 (zbn s 0 base k) /\ wr = w) (fun _ t _ => s.size - (intOf t).toNat)
 case atStart => exact ⟨0, by omega, by go_num, rfl, rfl⟩
 case round =>
  obtain ⟨k, hk, rfl, rfl, rfl⟩ := hrel
  by_cases hlt : k < s.size
  ·have z0 : (0 : Int) <= (k : Int) := by omega
   have z1 : (k : Int) < (s.size : Int) := by omega
   have h1 := HB.out k (by omega)
   have h2 := HB.out (k + 1) (by omega)
   have HE : Hid (zbn s 0 base (k + 1) = base * zbn s 0 base k + zbj (chr s k)) := by show zbn s 0 base (k + 1) = _; rw [zbn, Nat.zero_add, Int.mul_comm]
   have hx := zbJ (chr s k)
   have h3 : -4294967296 <= base * zbn s 0 base k /\ base * zbn s 0 base k <= 4294967296 := by
    rw [HE.out] at h2
    omega
   have u1 : IntKind.i64.wrap (base * zbn s 0 base k) = base * zbn s 0 base k := by rw [IntKind.wrap_i64]; omega
   have u2 : IntKind.i64.wrap (base * zbn s 0 base k + zbj (chr s k)) = zbn s 0 base (k + 1) := by rw [HE.out, IntKind.wrap_i64]; omega
   have HXk : Hid (∀ w, Calls Tryz.prog 153 #[.string ⟨#[48, 49, 50, 51, 52, 53, 54, 55, 56, 57, 97, 98, 99, 100, 101, 102]⟩, .int .u8 (s[k].toNat : Int)] w fun e w' => e = .returned (.int .i64 (zbj (chr s k))) /\ w' = w) := HX.out k hlt
   clear HX HB HE h1 h2 h3
   go_wp2_with fail
   refine (HXk.out _).mono ?_
   rintro e w ⟨rfl, rfl⟩
   clear HXk
   go_wp2_with fail
   go_roundw
   case rel => exact ⟨k + 1, by omega, by go_num, rfl, trivial⟩
   case measure => simp [intOf]; omega
  ·obtain rfl : k = s.size := by omega
   have z1 : ¬ (s.size : Int) < (s.size : Int) := by omega
   clear HX HB
   go_wp2_with fail
   go_ret
   exact ⟨rfl, rfl⟩
def zb0 (s : ByteArray) (b : Nat) : Sum Tk (Nat × Int) := if 32 < spN nmB s b - b then .inr (b, 2) else .inl ⟨1, 0, b, spN nmB s b, s.extract b (spN nmB s b), 0, 0, 0, 0⟩
theorem zcI (s : ByteArray) (b : Nat) (hs : s.size <= 140737488355000) (hb : b <= s.size) (w : World) : Calls Tryz.prog 111 #[.string s, .int .i64 b] w fun e w' => e = .returned (zaT (zb0 s b)) /\ Below w.heap.size w w' := by
 have HR : Hid (∀ w, Calls Tryz.prog 133 #[.string s, .int .i64 b, .func (.func 134) #[] #[]] w fun e w' => e = .returned (.int .i64 (spN nmB s b)) /\ w' = w) := fun w => zhm s b (by omega) hb w
 have HF : Hid (∀ i e w, Calls Tryz.prog 135 #[.int .i64 i, .int .i64 e] w fun e' w' => e' = .returned (zaE tk0 i e) /\ Below w.heap.size w w') := fun i e w => zax i e w
 have HC : Hid (∀ t w, Calls Tryz.prog 136 #[.string t] w fun e w' => e = .returned (.string t) /\ Below w.heap.size w w') := fun t w => zfn t w
 have HX : Hid (BX w ((w.alloc (tkO tk0)).alloc (fxO 0 0)) tk0 0 0) := BX.new w
 have hge := zbs nmB s (by decide) b
 have hle := zbV nmB s (by decide) b (by omega)
 have HU : Hid (zb0 s b = if 32 < spN nmB s b - b then .inr (b, 2) else .inl ⟨1, 0, b, spN nmB s b, s.extract b (spN nmB s b), 0, 0, 0, 0⟩) := rfl
 generalize spN nmB s b = n at *
 obtain ⟨m, hm⟩ : ∃ m, m = n - b := ⟨_, rfl⟩
 have u1 : IntKind.i64.wrap ((n : Int) - (b : Int)) = (m : Int) := by rw [IntKind.wrap_i64]; omega
 have z0 : (0 : Int) <= (b : Int) := by omega
 have z1 : (b : Int) <= (n : Int) := by omega
 have z2 : (n : Int) <= (s.size : Int) := by omega
 rw [<- hm] at HU
 clear hm
 by_cases h32 : 32 < m
 ·have HE : Hid (zb0 s b = .inr (b, 2)) := by show zb0 s b = _; rw [HU.out, if_pos h32]
  have t2 : decide (32 < m) = true := decide_eq_true h32
  clear HU HC
  go_enter Tryz.func111, Tryz.ntmps111
  go_wp2_with fail
  refine (HR.out _).mono ?_
  rintro e w2 ⟨rfl, rfl⟩
  clear HR
  go_wp2_with fail
  refine (HF.out _ _ _).mono ?_
  rintro e w3 ⟨rfl, b3⟩
  have HX3 : Hid (BX w w3 tk0 0 0) := HX.out.below b3
  clear b3 HX HF
  obtain ⟨f0, f1', f2', f3, f4, f5, f6, f7, f8, g0, g1⟩ := HX3.out.fz
  obtain ⟨c0, c1, c2, c3, c4, c5, c6, c7, c8, d0, d1⟩ := HX3.out.cells
  unfold zaE
  go_wp2_with fail
  have HP := HX3.out.put tk0 b 2
  exact zah rfl rfl rfl rfl HP ⟨by rw [HE.out]; rfl, HP.b⟩
 ·have HE : Hid (zb0 s b = .inl ⟨1, 0, b, n, s.extract b n, 0, 0, 0, 0⟩) := by show zb0 s b = _; rw [HU.out, if_neg h32]
  have t2 : decide (32 < m) = false := decide_eq_false h32
  clear HU HF
  go_enter Tryz.func111, Tryz.ntmps111
  go_wp2_with fail
  refine (HR.out _).mono ?_
  rintro e w2 ⟨rfl, rfl⟩
  clear HR
  go_wp2_with fail
  refine (HC.out _ _).mono ?_
  rintro e w3 ⟨rfl, b3⟩
  have HX3 : Hid (BX w w3 tk0 0 0) := HX.out.below b3
  clear b3 HX HC
  obtain ⟨f0, f1', f2', f3, f4, f5, f6, f7, f8, g0, g1⟩ := HX3.out.fz
  obtain ⟨c0, c1, c2, c3, c4, c5, c6, c7, c8, d0, d1⟩ := HX3.out.cells
  go_wp2_with fail
  have HP := HX3.out.put ⟨1, 0, b, n, s.extract b n, 0, 0, 0, 0⟩ 0 0
  exact zah rfl rfl rfl rfl HP ⟨by rw [HE.out]; rfl, HP.b⟩
def nmR (s : ByteArray) (b d : Nat) (k : Int) : Sum Tk (Nat × Int) := match zdd s d (gtK k) with
 | .inr e => .inr (b, e)
 | .inl n => .inl ⟨k, n, b, spN dgB s d, ⟨#[]⟩, 0, 0, 0, 0⟩
theorem zpM (s : ByteArray) (b d : Nat) (k : Int) (hs : s.size <= 140737488355000) (hd : d <= s.size) (_hb : b <= s.size) (h : spN dgB s d - d = 0) (w : World) : Calls Tryz.prog 113 #[.string s, .int .i64 b, .int .i64 d, .int .i64 k] w fun e w' => e = .returned (zaT (nmR s b d k)) /\ Below w.heap.size w w' := by
 have HR : Hid (∀ w, Calls Tryz.prog 133 #[.string s, .int .i64 d, .func (.func 112) #[] #[]] w fun e w' => e = .returned (.int .i64 (spN dgB s d)) /\ w' = w) := fun w => zbG s d (by omega) hd w
 have HF : Hid (∀ i e w, Calls Tryz.prog 135 #[.int .i64 i, .int .i64 e] w fun e' w' => e' = .returned (zaE tk0 i e) /\ Below w.heap.size w w') := fun i e w => zax i e w
 have HX : Hid (BX w ((w.alloc (tkO tk0)).alloc (fxO 0 0)) tk0 0 0) := BX.new w
 have hge := zbs dgB s (by decide) d
 have hle := zbV dgB s (by decide) d (by omega)
 have HU := (show Hid (zdd s d (gtK k) = if spN dgB s d - d = 0 ∨ (1 < spN dgB s d - d /\ chr s d = 48) then .inr 50
  else if 6 < spN dgB s d - d ∨ gtK k < zbn s d 10 (spN dgB s d - d) then .inr 1 else .inl (zbn s d 10 (spN dgB s d - d))) from rfl)
 have HM := (show Hid (nmR s b d k = match zdd s d (gtK k) with
  | .inr e => .inr (b, e)
  | .inl n => .inl ⟨k, n, b, spN dgB s d, ⟨#[]⟩, 0, 0, 0, 0⟩) from rfl)
 generalize spN dgB s d = n at *
 obtain ⟨m, hm⟩ : ∃ m, m = n - d := ⟨_, rfl⟩
 have u1 : IntKind.i64.wrap ((n : Int) - (d : Int)) = (m : Int) := by rw [IntKind.wrap_i64]; omega
 have z0 : (0 : Int) <= (d : Int) := by omega
 have z1 : (d : Int) <= (n : Int) := by omega
 have z2 : (n : Int) <= (s.size : Int) := by omega
 rw [<- hm] at HU h
 have HE : Hid (nmR s b d k = .inr (b, 50)) := by show nmR s b d k = _; rw [HM.out, HU.out, if_pos (.inl h)]
 have t1 : ((m : Int) == 0) = true := by rw [h]; rfl
 clear HU HM hm h
 go_enter Tryz.func113, Tryz.ntmps113
 go_wp2_with fail
 refine (HR.out _).mono ?_
 rintro e w2 ⟨rfl, rfl⟩
 clear HR
 go_wp2_with fail
 refine (HF.out _ _ _).mono ?_
 rintro e w3 ⟨rfl, b3⟩
 have HX3 : Hid (BX w w3 tk0 0 0) := HX.out.below b3
 clear b3 HX HF
 obtain ⟨f0, f1', f2', f3, f4, f5, f6, f7, f8, g0, g1⟩ := HX3.out.fz
 obtain ⟨c0, c1, c2, c3, c4, c5, c6, c7, c8, d0, d1⟩ := HX3.out.cells
 unfold zaE
 go_wp2_with fail
 have HP := HX3.out.put tk0 b 50
 exact zah rfl rfl rfl rfl HP ⟨by rw [HE.out]; rfl, HP.b⟩
theorem zpN (s : ByteArray) (b d : Nat) (k : Int) (hs : s.size <= 140737488355000) (hd : d <= s.size) (_hb : b <= s.size) (h : 1 < spN dgB s d - d) (h2 : chr s d = 48) (w : World) : Calls Tryz.prog 113 #[.string s, .int .i64 b, .int .i64 d, .int .i64 k] w fun e w' => e = .returned (zaT (nmR s b d k)) /\ Below w.heap.size w w' := by
 have HR : Hid (∀ w, Calls Tryz.prog 133 #[.string s, .int .i64 d, .func (.func 112) #[] #[]] w fun e w' => e = .returned (.int .i64 (spN dgB s d)) /\ w' = w) := fun w => zbG s d (by omega) hd w
 have HF : Hid (∀ i e w, Calls Tryz.prog 135 #[.int .i64 i, .int .i64 e] w fun e' w' => e' = .returned (zaE tk0 i e) /\ Below w.heap.size w w') := fun i e w => zax i e w
 have HX : Hid (BX w ((w.alloc (tkO tk0)).alloc (fxO 0 0)) tk0 0 0) := BX.new w
 have hge := zbs dgB s (by decide) d
 have hle := zbV dgB s (by decide) d (by omega)
 have HU := (show Hid (zdd s d (gtK k) = if spN dgB s d - d = 0 ∨ (1 < spN dgB s d - d /\ chr s d = 48) then .inr 50
  else if 6 < spN dgB s d - d ∨ gtK k < zbn s d 10 (spN dgB s d - d) then .inr 1 else .inl (zbn s d 10 (spN dgB s d - d))) from rfl)
 have HM := (show Hid (nmR s b d k = match zdd s d (gtK k) with
  | .inr e => .inr (b, e)
  | .inl n => .inl ⟨k, n, b, spN dgB s d, ⟨#[]⟩, 0, 0, 0, 0⟩) from rfl)
 generalize spN dgB s d = n at *
 obtain ⟨m, hm⟩ : ∃ m, m = n - d := ⟨_, rfl⟩
 have u1 : IntKind.i64.wrap ((n : Int) - (d : Int)) = (m : Int) := by rw [IntKind.wrap_i64]; omega
 have z0 : (0 : Int) <= (d : Int) := by omega
 have z1 : (d : Int) <= (n : Int) := by omega
 have z2 : (n : Int) <= (s.size : Int) := by omega
 rw [<- hm] at HU h
 have HE : Hid (nmR s b d k = .inr (b, 50)) := by show nmR s b d k = _; rw [HM.out, HU.out, if_pos (.inr ⟨h, h2⟩)]
 have t1 : ((m : Int) == 0) = false := by rw [beq_eq_false_iff_ne]; omega
 have t2 : (1 : Int) < (m : Int) := by omega
 have hlt : d < s.size := by omega
 have z3 : (d : Int) < (s.size : Int) := by omega
 have t3 : ((s[d].toNat : Int) == 48) = true := by rw [<- zai hlt, h2]; rfl
 clear HU HM hm h h2
 go_enter Tryz.func113, Tryz.ntmps113
 go_wp2_with fail
 refine (HR.out _).mono ?_
 rintro e w2 ⟨rfl, rfl⟩
 clear HR
 go_wp2_with fail
 refine (HF.out _ _ _).mono ?_
 rintro e w3 ⟨rfl, b3⟩
 have HX3 : Hid (BX w w3 tk0 0 0) := HX.out.below b3
 clear b3 HX HF
 obtain ⟨f0, f1', f2', f3, f4, f5, f6, f7, f8, g0, g1⟩ := HX3.out.fz
 obtain ⟨c0, c1, c2, c3, c4, c5, c6, c7, c8, d0, d1⟩ := HX3.out.cells
 unfold zaE
 go_wp2_with fail
 have HP := HX3.out.put tk0 b 50
 exact zah rfl rfl rfl rfl HP ⟨by rw [HE.out]; rfl, HP.b⟩
theorem zpO (s : ByteArray) (b d : Nat) (k : Int) (hs : s.size <= 140737488355000) (hd : d <= s.size) (_hb : b <= s.size) (h : 6 < spN dgB s d - d) (h2 : ¬ chr s d = 48) (w : World) : Calls Tryz.prog 113 #[.string s, .int .i64 b, .int .i64 d, .int .i64 k] w fun e w' => e = .returned (zaT (nmR s b d k)) /\ Below w.heap.size w w' := by
 have HR : Hid (∀ w, Calls Tryz.prog 133 #[.string s, .int .i64 d, .func (.func 112) #[] #[]] w fun e w' => e = .returned (.int .i64 (spN dgB s d)) /\ w' = w) := fun w => zbG s d (by omega) hd w
 have HF : Hid (∀ i e w, Calls Tryz.prog 135 #[.int .i64 i, .int .i64 e] w fun e' w' => e' = .returned (zaE tk0 i e) /\ Below w.heap.size w w') := fun i e w => zax i e w
 have HX : Hid (BX w ((w.alloc (tkO tk0)).alloc (fxO 0 0)) tk0 0 0) := BX.new w
 have hge := zbs dgB s (by decide) d
 have hle := zbV dgB s (by decide) d (by omega)
 have HU := (show Hid (zdd s d (gtK k) = if spN dgB s d - d = 0 ∨ (1 < spN dgB s d - d /\ chr s d = 48) then .inr 50
  else if 6 < spN dgB s d - d ∨ gtK k < zbn s d 10 (spN dgB s d - d) then .inr 1 else .inl (zbn s d 10 (spN dgB s d - d))) from rfl)
 have HM := (show Hid (nmR s b d k = match zdd s d (gtK k) with
  | .inr e => .inr (b, e)
  | .inl n => .inl ⟨k, n, b, spN dgB s d, ⟨#[]⟩, 0, 0, 0, 0⟩) from rfl)
 generalize spN dgB s d = n at *
 obtain ⟨m, hm⟩ : ∃ m, m = n - d := ⟨_, rfl⟩
 have u1 : IntKind.i64.wrap ((n : Int) - (d : Int)) = (m : Int) := by rw [IntKind.wrap_i64]; omega
 have z0 : (0 : Int) <= (d : Int) := by omega
 have z1 : (d : Int) <= (n : Int) := by omega
 have z2 : (n : Int) <= (s.size : Int) := by omega
 rw [<- hm] at HU h
 have HE : Hid (nmR s b d k = .inr (b, 1)) := by show nmR s b d k = _; rw [HM.out, HU.out, if_neg (by omega), if_pos (.inl h)]
 have t1 : ((m : Int) == 0) = false := by rw [beq_eq_false_iff_ne]; omega
 have t2 : (1 : Int) < (m : Int) := by omega
 have hlt : d < s.size := by omega
 have z3 : (d : Int) < (s.size : Int) := by omega
 have t3 : ((s[d].toNat : Int) == 48) = false := by rw [<- zai hlt, beq_eq_false_iff_ne]; exact h2
 have t4 : (6 : Int) < (m : Int) := by omega
 clear HU HM hm h h2
 go_enter Tryz.func113, Tryz.ntmps113
 go_wp2_with fail
 refine (HR.out _).mono ?_
 rintro e w2 ⟨rfl, rfl⟩
 clear HR
 go_wp2_with fail
 refine (HF.out _ _ _).mono ?_
 rintro e w3 ⟨rfl, b3⟩
 have HX3 : Hid (BX w w3 tk0 0 0) := HX.out.below b3
 clear b3 HX HF
 obtain ⟨f0, f1', f2', f3, f4, f5, f6, f7, f8, g0, g1⟩ := HX3.out.fz
 obtain ⟨c0, c1, c2, c3, c4, c5, c6, c7, c8, d0, d1⟩ := HX3.out.cells
 unfold zaE
 go_wp2_with fail
 have HP := HX3.out.put tk0 b 1
 exact zah rfl rfl rfl rfl HP ⟨by rw [HE.out]; rfl, HP.b⟩
theorem rn_one (s : ByteArray) (b d : Nat) (k : Int) (hs : s.size <= 140737488355000) (hd : d <= s.size) (_hb : b <= s.size) (h : spN dgB s d - d = 1) (w : World) : Calls Tryz.prog 113 #[.string s, .int .i64 b, .int .i64 d, .int .i64 k] w fun e w' => e = .returned (zaT (nmR s b d k)) /\ Below w.heap.size w w' := by
 have HR : Hid (∀ w, Calls Tryz.prog 133 #[.string s, .int .i64 d, .func (.func 112) #[] #[]] w fun e w' => e = .returned (.int .i64 (spN dgB s d)) /\ w' = w) := fun w => zbG s d (by omega) hd w
 have HF : Hid (∀ i e w, Calls Tryz.prog 135 #[.int .i64 i, .int .i64 e] w fun e' w' => e' = .returned (zaE tk0 i e) /\ Below w.heap.size w w') := fun i e w => zax i e w
 have HX : Hid (BX w ((w.alloc (tkO tk0)).alloc (fxO 0 0)) tk0 0 0) := BX.new w
 have hge := zbs dgB s (by decide) d
 have hle := zbV dgB s (by decide) d (by omega)
 have HU := (show Hid (zdd s d (gtK k) = if spN dgB s d - d = 0 ∨ (1 < spN dgB s d - d /\ chr s d = 48) then .inr 50
  else if 6 < spN dgB s d - d ∨ gtK k < zbn s d 10 (spN dgB s d - d) then .inr 1 else .inl (zbn s d 10 (spN dgB s d - d))) from rfl)
 have HM := (show Hid (nmR s b d k = match zdd s d (gtK k) with
  | .inr e => .inr (b, e)
  | .inl n => .inl ⟨k, n, b, spN dgB s d, ⟨#[]⟩, 0, 0, 0, 0⟩) from rfl)
 generalize spN dgB s d = n at *
 obtain ⟨m, hm⟩ : ∃ m, m = n - d := ⟨_, rfl⟩
 have u1 : IntKind.i64.wrap ((n : Int) - (d : Int)) = (m : Int) := by rw [IntKind.wrap_i64]; omega
 have z0 : (0 : Int) <= (d : Int) := by omega
 have z1 : (d : Int) <= (n : Int) := by omega
 have z2 : (n : Int) <= (s.size : Int) := by omega
 rw [<- hm] at HU h
 have h0 : ¬ (m = 0 ∨ (1 < m /\ chr s d = 48)) := by omega
 have h6 : m <= 6 := by omega
 have t2 : ¬ (1 : Int) < (m : Int) := by omega
 have t1 : ((m : Int) == 0) = false := by rw [beq_eq_false_iff_ne]; omega
 have t4 : ¬ (6 : Int) < (m : Int) := by omega
 have HNo : Hid (∀ w, Calls Tryz.prog 137 #[.string (s.extract d n), .int .i64 10] w fun e w' => e = .returned (.int .i64 (zbn s d 10 m)) /\ w' = w) := fun w => by
  have hz : (s.extract d n).size = m := by rw [ByteArray.size_extract]; omega
  have e := zcH (s.extract d n) 10 (by omega) (by omega) w
  rw [hz, zfA (by omega) m (by omega)] at e
  exact e
 have HG : Hid (∀ w, Calls Tryz.prog 138 #[.int .i64 k] w fun e w' => e = .returned (.int .i64 (gtK k)) /\ w' = w) := fun w => zdJ k w
 rw [if_neg h0] at HU
 generalize zbn s d 10 m = x at *
 generalize gtK k = y at *
 by_cases hg : y < x
 ·have HE : Hid (nmR s b d k = .inr (b, 1)) := by show nmR s b d k = _; rw [HM.out, HU.out, if_pos (.inr hg)]
  have t5 : decide (y < x) = true := decide_eq_true hg
  clear HU HM hm h h0 hg
  go_enter Tryz.func113, Tryz.ntmps113
  go_wp2_with fail
  refine (HR.out _).mono ?_
  rintro e w2 ⟨rfl, rfl⟩
  clear HR
  go_wp2_with fail
  refine (HNo.out _).mono ?_
  rintro e w2 ⟨rfl, rfl⟩
  clear HNo
  go_wp2_with fail
  refine (HG.out _).mono ?_
  rintro e w2 ⟨rfl, rfl⟩
  clear HG
  go_wp2_with fail
  refine (HF.out _ _ _).mono ?_
  rintro e w3 ⟨rfl, b3⟩
  have HX3 : Hid (BX w w3 tk0 0 0) := HX.out.below b3
  clear b3 HX HF
  obtain ⟨f0, f1', f2', f3, f4, f5, f6, f7, f8, g0, g1⟩ := HX3.out.fz
  obtain ⟨c0, c1, c2, c3, c4, c5, c6, c7, c8, d0, d1⟩ := HX3.out.cells
  unfold zaE
  go_wp2_with fail
  have HP := HX3.out.put tk0 b 1
  exact zah rfl rfl rfl rfl HP ⟨by rw [HE.out]; rfl, HP.b⟩
 ·have HE : Hid (nmR s b d k = .inl ⟨k, x, b, n, ⟨#[]⟩, 0, 0, 0, 0⟩) := by show nmR s b d k = _; rw [HM.out, HU.out, if_neg (by omega)]
  have t5 : decide (y < x) = false := decide_eq_false hg
  clear HU HM hm h h0 hg HF
  go_enter Tryz.func113, Tryz.ntmps113
  go_wp2_with fail
  refine (HR.out _).mono ?_
  rintro e w2 ⟨rfl, rfl⟩
  clear HR
  go_wp2_with fail
  refine (HNo.out _).mono ?_
  rintro e w2 ⟨rfl, rfl⟩
  clear HNo
  go_wp2_with fail
  refine (HG.out _).mono ?_
  rintro e w3 ⟨rfl, hw3⟩
  have HX3 : Hid (BX w w3 tk0 0 0) := hw3 ▸ HX.out
  clear hw3 HX HG
  obtain ⟨f0, f1', f2', f3, f4, f5, f6, f7, f8, g0, g1⟩ := HX3.out.fz
  obtain ⟨c0, c1, c2, c3, c4, c5, c6, c7, c8, d0, d1⟩ := HX3.out.cells
  go_wp2_with fail
  have HP := HX3.out.put ⟨k, x, b, n, ⟨#[]⟩, 0, 0, 0, 0⟩ 0 0
  exact zah rfl rfl rfl rfl HP ⟨by rw [HE.out]; rfl, HP.b⟩
theorem zpP (s : ByteArray) (b d : Nat) (k : Int) (hs : s.size <= 140737488355000) (hd : d <= s.size) (_hb : b <= s.size) (h : spN dgB s d - d <= 6) (h1 : 1 < spN dgB s d - d) (h2 : ¬ chr s d = 48) (w : World) : Calls Tryz.prog 113 #[.string s, .int .i64 b, .int .i64 d, .int .i64 k] w fun e w' => e = .returned (zaT (nmR s b d k)) /\ Below w.heap.size w w' := by
 have HR : Hid (∀ w, Calls Tryz.prog 133 #[.string s, .int .i64 d, .func (.func 112) #[] #[]] w fun e w' => e = .returned (.int .i64 (spN dgB s d)) /\ w' = w) := fun w => zbG s d (by omega) hd w
 have HF : Hid (∀ i e w, Calls Tryz.prog 135 #[.int .i64 i, .int .i64 e] w fun e' w' => e' = .returned (zaE tk0 i e) /\ Below w.heap.size w w') := fun i e w => zax i e w
 have HX : Hid (BX w ((w.alloc (tkO tk0)).alloc (fxO 0 0)) tk0 0 0) := BX.new w
 have hge := zbs dgB s (by decide) d
 have hle := zbV dgB s (by decide) d (by omega)
 have HU := (show Hid (zdd s d (gtK k) = if spN dgB s d - d = 0 ∨ (1 < spN dgB s d - d /\ chr s d = 48) then .inr 50
  else if 6 < spN dgB s d - d ∨ gtK k < zbn s d 10 (spN dgB s d - d) then .inr 1 else .inl (zbn s d 10 (spN dgB s d - d))) from rfl)
 have HM := (show Hid (nmR s b d k = match zdd s d (gtK k) with
  | .inr e => .inr (b, e)
  | .inl n => .inl ⟨k, n, b, spN dgB s d, ⟨#[]⟩, 0, 0, 0, 0⟩) from rfl)
 generalize spN dgB s d = n at *
 obtain ⟨m, hm⟩ : ∃ m, m = n - d := ⟨_, rfl⟩
 have u1 : IntKind.i64.wrap ((n : Int) - (d : Int)) = (m : Int) := by rw [IntKind.wrap_i64]; omega
 have z0 : (0 : Int) <= (d : Int) := by omega
 have z1 : (d : Int) <= (n : Int) := by omega
 have z2 : (n : Int) <= (s.size : Int) := by omega
 rw [<- hm] at HU h
 rw [<- hm] at h1
 have h0 : ¬ (m = 0 ∨ (1 < m /\ chr s d = 48)) := by omega
 have h6 : m <= 6 := by omega
 have t2 : (1 : Int) < (m : Int) := by omega
 have hlt : d < s.size := by omega
 have z3 : (d : Int) < (s.size : Int) := by omega
 have t3 : ((s[d].toNat : Int) == 48) = false := by rw [<- zai hlt, beq_eq_false_iff_ne]; exact h2
 have t1 : ((m : Int) == 0) = false := by rw [beq_eq_false_iff_ne]; omega
 have t4 : ¬ (6 : Int) < (m : Int) := by omega
 have HNo : Hid (∀ w, Calls Tryz.prog 137 #[.string (s.extract d n), .int .i64 10] w fun e w' => e = .returned (.int .i64 (zbn s d 10 m)) /\ w' = w) := fun w => by
  have hz : (s.extract d n).size = m := by rw [ByteArray.size_extract]; omega
  have e := zcH (s.extract d n) 10 (by omega) (by omega) w
  rw [hz, zfA (by omega) m (by omega)] at e
  exact e
 have HG : Hid (∀ w, Calls Tryz.prog 138 #[.int .i64 k] w fun e w' => e = .returned (.int .i64 (gtK k)) /\ w' = w) := fun w => zdJ k w
 rw [if_neg h0] at HU
 generalize zbn s d 10 m = x at *
 generalize gtK k = y at *
 by_cases hg : y < x
 ·have HE : Hid (nmR s b d k = .inr (b, 1)) := by show nmR s b d k = _; rw [HM.out, HU.out, if_pos (.inr hg)]
  have t5 : decide (y < x) = true := decide_eq_true hg
  clear HU HM hm h h0 hg h1 h2
  go_enter Tryz.func113, Tryz.ntmps113
  go_wp2_with fail
  refine (HR.out _).mono ?_
  rintro e w2 ⟨rfl, rfl⟩
  clear HR
  go_wp2_with fail
  refine (HNo.out _).mono ?_
  rintro e w2 ⟨rfl, rfl⟩
  clear HNo
  go_wp2_with fail
  refine (HG.out _).mono ?_
  rintro e w2 ⟨rfl, rfl⟩
  clear HG
  go_wp2_with fail
  refine (HF.out _ _ _).mono ?_
  rintro e w3 ⟨rfl, b3⟩
  have HX3 : Hid (BX w w3 tk0 0 0) := HX.out.below b3
  clear b3 HX HF
  obtain ⟨f0, f1', f2', f3, f4, f5, f6, f7, f8, g0, g1⟩ := HX3.out.fz
  obtain ⟨c0, c1, c2, c3, c4, c5, c6, c7, c8, d0, d1⟩ := HX3.out.cells
  unfold zaE
  go_wp2_with fail
  have HP := HX3.out.put tk0 b 1
  exact zah rfl rfl rfl rfl HP ⟨by rw [HE.out]; rfl, HP.b⟩
 ·have HE : Hid (nmR s b d k = .inl ⟨k, x, b, n, ⟨#[]⟩, 0, 0, 0, 0⟩) := by show nmR s b d k = _; rw [HM.out, HU.out, if_neg (by omega)]
  have t5 : decide (y < x) = false := decide_eq_false hg
  clear HU HM hm h h0 hg HF h1 h2
  go_enter Tryz.func113, Tryz.ntmps113
  go_wp2_with fail
  refine (HR.out _).mono ?_
  rintro e w2 ⟨rfl, rfl⟩
  clear HR
  go_wp2_with fail
  refine (HNo.out _).mono ?_
  rintro e w2 ⟨rfl, rfl⟩
  clear HNo
  go_wp2_with fail
  refine (HG.out _).mono ?_
  rintro e w3 ⟨rfl, hw3⟩
  have HX3 : Hid (BX w w3 tk0 0 0) := hw3 ▸ HX.out
  clear hw3 HX HG
  obtain ⟨f0, f1', f2', f3, f4, f5, f6, f7, f8, g0, g1⟩ := HX3.out.fz
  obtain ⟨c0, c1, c2, c3, c4, c5, c6, c7, c8, d0, d1⟩ := HX3.out.cells
  go_wp2_with fail
  have HP := HX3.out.put ⟨k, x, b, n, ⟨#[]⟩, 0, 0, 0, 0⟩ 0 0
  exact zah rfl rfl rfl rfl HP ⟨by rw [HE.out]; rfl, HP.b⟩
theorem zbB (s : ByteArray) (b d : Nat) (k : Int) (hs : s.size <= 140737488355000) (hd : d <= s.size) (hb : b <= s.size) (w : World) : Calls Tryz.prog 113 #[.string s, .int .i64 b, .int .i64 d, .int .i64 k] w fun e w' => e = .returned (zaT (nmR s b d k)) /\ Below w.heap.size w w' := by
 by_cases h0 : spN dgB s d - d = 0
 ·exact zpM s b d k hs hd hb h0 w
 by_cases h1 : spN dgB s d - d = 1
 ·exact rn_one s b d k hs hd hb h1 w
 by_cases h2 : chr s d = 48
 ·exact zpN s b d k hs hd hb (by omega) h2 w
 by_cases h6 : 6 < spN dgB s d - d
 ·exact zpO s b d k hs hd hb h6 h2 w
 ·exact zpP s b d k hs hd hb (by omega) (by omega) h2 w
def sgTab : List (Int × List UInt8) := [(29, [37, 101]), (30, [37, 102]), (14, [94, 43]), (15, [94, 45]), (13, [94]), (6, [60, 45]), (27, [45, 62]), (7, [47]), (8, [38]), (9, [33]), (10, [63]), (11, [42]), (12, [43]), (16, [40]), (17, [41]), (18, [46]), (21, [123, 58]), (22, [58, 125]), (23, [123, 124]), (24, [124, 125]), (25, [123, 126]), (26, [126, 125]), (19, [123]), (20, [125])]
def zik (s : ByteArray) (i : Nat) : List (Int × List UInt8) -> Int × List UInt8
 | [] => (0, [])
 | p :: l => if pfx s i p.2 = true then p else zik s i l
def zak (s : ByteArray) (i : Nat) : Int × List UInt8 := zik s i sgTab
def tabL : List Value := [.int .i64 29, .string ⟨#[37, 101]⟩, .int .i64 30, .string ⟨#[37, 102]⟩, .int .i64 14, .string ⟨#[94, 43]⟩, .int .i64 15, .string ⟨#[94, 45]⟩, .int .i64 13, .string ⟨#[94]⟩, .int .i64 6, .string ⟨#[60, 45]⟩, .int .i64 27, .string ⟨#[45, 62]⟩, .int .i64 7, .string ⟨#[47]⟩, .int .i64 8, .string ⟨#[38]⟩, .int .i64 9, .string ⟨#[33]⟩, .int .i64 10, .string ⟨#[63]⟩, .int .i64 11, .string ⟨#[42]⟩, .int .i64 12, .string ⟨#[43]⟩, .int .i64 16, .string ⟨#[40]⟩, .int .i64 17, .string ⟨#[41]⟩, .int .i64 18, .string ⟨#[46]⟩, .int .i64 21, .string ⟨#[123, 58]⟩, .int .i64 22, .string ⟨#[58, 125]⟩, .int .i64 23, .string ⟨#[123, 124]⟩, .int .i64 24, .string ⟨#[124, 125]⟩, .int .i64 25, .string ⟨#[123, 126]⟩, .int .i64 26, .string ⟨#[126, 125]⟩, .int .i64 19, .string ⟨#[123]⟩, .int .i64 20, .string ⟨#[125]⟩]
structure SG (W : World) : Prop where
 lt : 1 < W.heap.size
 rng : W.rangeAt 1 0 tabL
theorem SG.below {B : Nat} {W W' : World} (h : SG W) (hb : Below B W W') (hB : 1 < B) : SG W' :=
 ⟨Nat.lt_of_lt_of_le h.lt hb.size, fun j v hv => (hb.cell (p := ⟨1, 0 + j, none⟩) hB).trans (h.rng j v hv)⟩
theorem SG.later {W W' : World} (h : SG W) (hb : Below W.heap.size W W') : SG W' := h.below hb h.lt
theorem zhw (k : Nat) (p : Int × List UInt8) (h : sgTab[k]? = some p) (W : World) : (Instr.index 185 (.agg tabL.toArray) (.int .i64 (k : Int))).run Tryz.prog W = .ok (.agg #[.int .i64 p.1, .string ⟨p.2.toArray⟩]) W := by
 match k, h with
 | 0, h => cases h; simp [tabL, Instr.index, run_underlying Tryz.underlying185, asIntOf, go_sem]
 | 1, h => cases h; simp [tabL, Instr.index, run_underlying Tryz.underlying185, asIntOf, go_sem]
 | 2, h => cases h; simp [tabL, Instr.index, run_underlying Tryz.underlying185, asIntOf, go_sem]
 | 3, h => cases h; simp [tabL, Instr.index, run_underlying Tryz.underlying185, asIntOf, go_sem]
 | 4, h => cases h; simp [tabL, Instr.index, run_underlying Tryz.underlying185, asIntOf, go_sem]
 | 5, h => cases h; simp [tabL, Instr.index, run_underlying Tryz.underlying185, asIntOf, go_sem]
 | 6, h => cases h; simp [tabL, Instr.index, run_underlying Tryz.underlying185, asIntOf, go_sem]
 | 7, h => cases h; simp [tabL, Instr.index, run_underlying Tryz.underlying185, asIntOf, go_sem]
 | 8, h => cases h; simp [tabL, Instr.index, run_underlying Tryz.underlying185, asIntOf, go_sem]
 | 9, h => cases h; simp [tabL, Instr.index, run_underlying Tryz.underlying185, asIntOf, go_sem]
 | 10, h => cases h; simp [tabL, Instr.index, run_underlying Tryz.underlying185, asIntOf, go_sem]
 | 11, h => cases h; simp [tabL, Instr.index, run_underlying Tryz.underlying185, asIntOf, go_sem]
 | 12, h => cases h; simp [tabL, Instr.index, run_underlying Tryz.underlying185, asIntOf, go_sem]
 | 13, h => cases h; simp [tabL, Instr.index, run_underlying Tryz.underlying185, asIntOf, go_sem]
 | 14, h => cases h; simp [tabL, Instr.index, run_underlying Tryz.underlying185, asIntOf, go_sem]
 | 15, h => cases h; simp [tabL, Instr.index, run_underlying Tryz.underlying185, asIntOf, go_sem]
 | 16, h => cases h; simp [tabL, Instr.index, run_underlying Tryz.underlying185, asIntOf, go_sem]
 | 17, h => cases h; simp [tabL, Instr.index, run_underlying Tryz.underlying185, asIntOf, go_sem]
 | 18, h => cases h; simp [tabL, Instr.index, run_underlying Tryz.underlying185, asIntOf, go_sem]
 | 19, h => cases h; simp [tabL, Instr.index, run_underlying Tryz.underlying185, asIntOf, go_sem]
 | 20, h => cases h; simp [tabL, Instr.index, run_underlying Tryz.underlying185, asIntOf, go_sem]
 | 21, h => cases h; simp [tabL, Instr.index, run_underlying Tryz.underlying185, asIntOf, go_sem]
 | 22, h => cases h; simp [tabL, Instr.index, run_underlying Tryz.underlying185, asIntOf, go_sem]
 | 23, h => cases h; simp [tabL, Instr.index, run_underlying Tryz.underlying185, asIntOf, go_sem]
abbrev sgO (p : Int × List UInt8) : Obj := .cells #[.int .i64 p.1, .string ⟨p.2.toArray⟩] 169
structure SX (W : World) (b : Nat) (p : Int × List UInt8) : Prop where
 heap : W.heap[b]? = some (.cells #[.int .i64 p.1, .string ⟨p.2.toArray⟩] 169 (0, 0))
theorem SX.lt {W : World} {b : Nat} {p : Int × List UInt8} (h : SX W b p) : b < W.heap.size := (Array.getElem?_eq_some_iff.1 h.heap).1
theorem SX.below {W W' : World} {b : Nat} {p : Int × List UInt8} (h : SX W b p) (hb : Below W.heap.size W W') : SX W' b p := ⟨(hb.block b h.lt).trans h.heap⟩
theorem SX.new (W : World) (p : Int × List UInt8) : SX (W.alloc (sgO p)) W.heap.size p := ⟨heap_alloc_new W _⟩
theorem SX.c0 {W : World} {b : Nat} {p : Int × List UInt8} (h : SX W b p) : W.cell? ⟨b, 0, none⟩ = some (.int .i64 p.1) := by rw [cell_of_row W b 0 _ 169 (0, 0) h.heap]; rfl
theorem SX.c1 {W : World} {b : Nat} {p : Int × List UInt8} (h : SX W b p) : W.cell? ⟨b, 1, none⟩ = some (.string ⟨p.2.toArray⟩) := by rw [cell_of_row W b 1 _ 169 (0, 0) h.heap]; rfl
theorem SX.f0 {W : World} {b : Nat} {p : Int × List UInt8} (h : SX W b p) : W.frozen? ⟨b, 0, none⟩ = false := frozen_of_row W b 0 _ 169 h.heap
theorem SX.f1 {W : World} {b : Nat} {p : Int × List UInt8} (h : SX W b p) : W.frozen? ⟨b, 1, none⟩ = false := frozen_of_row W b 1 _ 169 h.heap
theorem SX.put {W : World} {b : Nat} {p0 : Int × List UInt8} (h : SX W b p0) (p : Int × List UInt8) : SX ((W.setCell ⟨b, 0, none⟩ (.int .i64 p.1)).setCell ⟨b, 1, none⟩ (.string ⟨p.2.toArray⟩)) b p := by
 have h := h.heap
 have h0 := heap_setCell_same _ b 0 _ 169 (.int .i64 p.1) h
 have h1 := heap_setCell_same _ b 1 _ 169 (.string ⟨p.2.toArray⟩) h0
 refine ⟨?_⟩
 rw [h1]
 simp
theorem zoi {fn : Func} {R : Ending -> World -> Prop} {a : Act} {W : World} {b : Nat} {p : Int × List UInt8} (hF : fn.results = #[.cell 4 169]) (hd : a.defers = []) (h4 : a.tmps.getD 4 undef = .pointer (some ⟨b, 0, none⟩)) (hT : SX W b p) (hR : R (.returned (.agg #[.int .i64 p.1, .string ⟨p.2.toArray⟩])) W) : bodyPost Tryz.prog fn R .ret a W := by
 have c0 := hT.c0
 have c1 := hT.c1
 refine bodyPost_ret (v := .agg #[.int .i64 p.1, .string ⟨p.2.toArray⟩]) ?_ hd hR
 simp only [Array.getD_eq_getD_getElem?] at h4
 simp [results, hF, go_sem, h4, c0, c1]
structure AtTab (w wr : World) : Prop where
 b : Below w.heap.size w wr
 x : SX wr w.heap.size (0, [])
theorem zaW (s : ByteArray) (i : Nat) (hi : i <= s.size) (w : World) (hg : SG w) : Calls Tryz.prog 142 #[.string s, .int .i64 i] w fun e w' => e = .returned (.agg #[.int .i64 (zak s i).1, .string ⟨(zak s i).2.toArray⟩]) /\ Below w.heap.size w w' := by
 have HS : Hid (∀ (l : List UInt8) w, Calls Tryz.prog 86 #[.string s, .int .i64 i, .string ⟨l.toArray⟩] w fun e w' => e = .returned (.bool (pfx s i l)) /\ w' = w) := fun l w => by
  have e := zao s i ⟨l.toArray⟩ hi w
  rw [show (⟨l.toArray⟩ : ByteArray).data.toList = l from by simp] at e
  exact e
 have H0 : Hid (AtTab w (w.alloc (sgO (0, [])))) := ⟨zaa _ _, SX.new w (0, [])⟩
 have HI : Hid (∀ (k : Nat) p, sgTab[k]? = some p -> ∀ W : World, (Instr.index 185 (.agg tabL.toArray) (.int .i64 (k : Int))).run Tryz.prog W = .ok (.agg #[.int .i64 p.1, .string ⟨p.2.toArray⟩]) W) := zhw
 have hR : (w.alloc (sgO (0, []))).rangeAt 1 0 tabL := (hg.later (zaa _ _)).rng
 have HL : Hid (zik s i (sgTab.drop 0) = zak s i) := rfl
 clear hg
 generalize htv : tabL.toArray = TV at HI
 go_enter Tryz.func142, Tryz.ntmps142
 go_wp2_with (refine wpList_load_mid rfl 185 _ rfl 1 0 rfl tabL _ hR Tryz.underlying185 rfl (by kernel_rfl) ?_)
 clear hR htv
 go_loopw [8] (fun t wr => ∃ k : Nat, k <= 24 /\ t = .int .i64 k /\ Hid (AtTab w wr) /\ Hid (zik s i (sgTab.drop k) = zak s i)) (fun t _ => 24 - (intOf t).toNat)
 case atStart => exact ⟨0, by omega, by go_num, H0, HL⟩
 case round =>
  obtain ⟨k, hk, rfl, HW, HD⟩ := hrel
  clear H0 HL
  by_cases hk4 : k < 24
  ·obtain ⟨p, hp⟩ : ∃ p, sgTab[k]? = some p := ⟨_, List.getElem?_eq_getElem (by show k < 24; exact hk4)⟩
   have hix := HI.out k p hp
   have z1 : (k : Int) < 24 := by omega
   have HSk := hO (HS.out p.2)
   have HU : Hid (zak s i = if pfx s i p.2 = true then p else zik s i (sgTab.drop (k + 1))) := by
    show zak s i = _
    have hd : sgTab.drop k = p :: sgTab.drop (k + 1) := by
     obtain ⟨h1, h2⟩ := List.getElem?_eq_some_iff.1 hp
     rw [List.drop_eq_getElem_cons h1, h2]
    rw [<- HD.out, hd, zik]
   clear HS hp HD
   cases hf : pfx s i p.2 with
   | true =>
    have HE : Hid (zak s i = p) := by show zak s i = p; rw [HU.out, if_pos hf]
    rw [hf] at HSk
    clear HU hf
    go_wp2_with fail
    refine (HSk.out _).mono ?_
    rintro e w3 ⟨rfl, hw3⟩
    have HX3 : Hid (SX w3 w.heap.size (0, [])) := by rw [hw3]; exact HW.out.x.below (zaa _ _)
    have HY3 : Hid (SX w3 wr.heap.size p) := by rw [hw3]; exact SX.new wr p
    have HB3 : Hid (Below w.heap.size w w3) := by rw [hw3]; exact HW.out.b.alloc HW.out.b.size _
    clear hw3 HW HSk hix HI
    have f0 := HX3.out.f0
    have f1' := HX3.out.f1
    have c0 := HX3.out.c0
    have c1 := HX3.out.c1
    have d0 := HY3.out.c0
    have d1 := HY3.out.c1
    go_wp2_with fail
    exact zoi rfl rfl rfl (HX3.out.put p) ⟨by rw [HE.out], (HB3.out.setCell (p := ⟨w.heap.size, 0, none⟩) (Nat.le_refl _) _).setCell (p := ⟨w.heap.size, 1, none⟩) (Nat.le_refl _) _⟩
   | false =>
    have HE : Hid (zik s i (sgTab.drop (k + 1)) = zak s i) := by show _ = zak s i; rw [HU.out, if_neg (by rw [hf]; decide)]
    rw [hf] at HSk
    clear HU hf
    go_wp2_with fail
    refine (HSk.out _).mono ?_
    rintro e w3 ⟨rfl, hw3⟩
    have HW3 : Hid (AtTab w w3) := by rw [hw3]; exact ⟨HW.out.b.alloc HW.out.b.size _, HW.out.x.below (zaa _ _)⟩
    clear hw3 HW HSk hix
    go_wp2_with fail
    go_roundw
    case rel => exact ⟨k + 1, by omega, by go_num, HW3, HE⟩
    case measure => simp [intOf]; omega
  ·obtain rfl : k = 24 := by omega
   have HE : Hid (zak s i = (0, [])) := by show zak s i = _; rw [<- HD.out]; rfl
   have f0 := HW.out.x.f0
   have f1' := HW.out.x.f1
   have c0 := HW.out.x.c0
   have c1 := HW.out.x.c1
   clear HS HI HD
   go_wp2_with fail
   exact zoi rfl rfl rfl (HW.out.x.put (0, [])) ⟨by rw [HE.out], (HW.out.b.setCell (p := ⟨w.heap.size, 0, none⟩) (Nat.le_refl _) _).setCell (p := ⟨w.heap.size, 1, none⟩) (Nat.le_refl _) _⟩
def ptP (s : ByteArray) (a : Nat) : Int × Nat × Bool :=
 if spN hxB s a = a ∨ 6 < spN hxB s a - a then (0, a, false) else (zbn s a 16 (spN hxB s a - a), spN hxB s a, decide (zbn s a 16 (spN hxB s a - a) <= 1114111))
theorem zav (s : ByteArray) (a : Nat) (hs : s.size <= 140737488355000) (ha : a <= s.size) (w : World) : Calls Tryz.prog 159 #[.string s, .int .i64 a] w fun e w' => e = .returned (.tuple #[.int .i64 (ptP s a).1, .int .i64 (ptP s a).2.1, .bool (ptP s a).2.2]) /\ w' = w := by
 have HR : Hid (∀ w, Calls Tryz.prog 133 #[.string s, .int .i64 a, .func (.func 177) #[] #[]] w fun e w' => e = .returned (.int .i64 (spN hxB s a)) /\ w' = w) := fun w => zi3 s a (by omega) ha w
 have hge := zbs hxB s (by decide) a
 have hle := zbV hxB s (by decide) a ha
 have HU : Hid (ptP s a = if spN hxB s a = a ∨ 6 < spN hxB s a - a then (0, a, false) else (zbn s a 16 (spN hxB s a - a), spN hxB s a, decide (zbn s a 16 (spN hxB s a - a) <= 1114111))) := rfl
 generalize spN hxB s a = n at *
 obtain ⟨m, hm⟩ : ∃ m, m = n - a := ⟨_, rfl⟩
 have u1 : IntKind.i64.wrap ((n : Int) - (a : Int)) = (m : Int) := by rw [IntKind.wrap_i64]; omega
 rw [<- hm] at HU
 by_cases h0 : n = a
 ·have HE : Hid (ptP s a = (0, a, false)) := by show ptP s a = _; rw [HU.out, if_pos (.inl h0)]
  have t1 : ((n : Int) == (a : Int)) = true := by rw [h0]; exact beq_self_eq_true _
  clear HU hm h0
  go_enter Tryz.func159, Tryz.ntmps159
  go_wp2_with fail
  refine (HR.out _).mono ?_
  rintro e w2 ⟨rfl, rfl⟩
  clear HR
  go_wp2_with fail
  refine bodyPost_ret (v := .tuple #[.int .i64 0, .int .i64 a, .bool false]) (by simp [results, Tryz.results159, go_sem]) rfl ⟨by rw [HE.out], rfl⟩
 have t1 : ((n : Int) == (a : Int)) = false := by rw [beq_eq_false_iff_ne]; omega
 by_cases h6 : 6 < m
 ·have HE : Hid (ptP s a = (0, a, false)) := by show ptP s a = _; rw [HU.out, if_pos (.inr h6)]
  have t2 : (6 : Int) < (m : Int) := by omega
  clear HU hm h0 h6
  go_enter Tryz.func159, Tryz.ntmps159
  go_wp2_with fail
  refine (HR.out _).mono ?_
  rintro e w2 ⟨rfl, rfl⟩
  clear HR
  go_wp2_with fail
  refine bodyPost_ret (v := .tuple #[.int .i64 0, .int .i64 a, .bool false]) (by simp [results, Tryz.results159, go_sem]) rfl ⟨by rw [HE.out], rfl⟩
 ·have HE : Hid (ptP s a = (zbn s a 16 m, n, decide (zbn s a 16 m <= 1114111))) := by show ptP s a = _; rw [HU.out, if_neg (by omega)]
  have t2 : ¬ (6 : Int) < (m : Int) := by omega
  have z0 : (0 : Int) <= (a : Int) := by omega
  have z1 : (a : Int) <= (n : Int) := by omega
  have z2 : (n : Int) <= (s.size : Int) := by omega
  have HN : Hid (∀ w, Calls Tryz.prog 137 #[.string (s.extract a n), .int .i64 16] w fun e w' => e = .returned (.int .i64 (zbn s a 16 m)) /\ w' = w) := fun w => by
   have hz : (s.extract a n).size = m := by rw [ByteArray.size_extract]; omega
   have e := zcH (s.extract a n) 16 (by omega) (by omega) w
   rw [hz, zfA (by omega) m (by omega)] at e
   exact e
  clear HU hm h0 h6
  generalize zbn s a 16 m = x at *
  go_enter Tryz.func159, Tryz.ntmps159
  go_wp2_with fail
  refine (HR.out _).mono ?_
  rintro e w2 ⟨rfl, rfl⟩
  clear HR
  go_wp2_with fail
  refine (HN.out _).mono ?_
  rintro e w2 ⟨rfl, rfl⟩
  clear HN
  go_wp2_with fail
  refine bodyPost_ret (v := .tuple #[.int .i64 x, .int .i64 n, .bool (decide (x <= 1114111))]) (by simp [results, Tryz.results159, go_sem]) rfl ⟨by rw [HE.out], rfl⟩
def Kj (P : Program) (c : Code) (L : Nat) (J : Act -> World -> Prop) (Q : Exit -> Act -> World -> Prop) : Nat -> Exit -> Act -> World -> Prop
 | _, .normal, a, w => Q .normal a w
 | _, .exit i, a, w => Q (.exit i) a w
 | _, .ret, a, w => Q .ret a w
 | _, .panic ch, a, w => Q (.panic ch) a w
 | _, .outgrown, a, w => Q .outgrown a w
 | 0, .goto l, a, w => l = L /\ J a w
 | n + 1, .goto l, a, w => (l = L /\ J a w) ∨ ∃ rest, findLabel c l = some rest /\ rest.wp P (Kj P c L J Q n) a w
section
variable {P : Program} {c : Code} {L : Nat} {J : Act -> World -> Prop} {Q : Exit -> Act -> World -> Prop} {a : Act} {w : World}
@[go_sem] theorem Kj_normal (n : Nat) : Kj P c L J Q n .normal a w = Q .normal a w := by cases n <;> rfl
@[go_sem] theorem Kj_exit (n i : Nat) : Kj P c L J Q n (.exit i) a w = Q (.exit i) a w := by cases n <;> rfl
@[go_sem] theorem zdm (n : Nat) : Kj P c L J Q n .ret a w = Q .ret a w := by cases n <;> rfl
@[go_sem] theorem Kj_panic (n : Nat) (ch : List PanicEntry) : Kj P c L J Q n (.panic ch) a w = Q (.panic ch) a w := by cases n <;> rfl
theorem zpQ (n : Nat) : Kj P c L J Q n .outgrown a w = Q .outgrown a w := by cases n <;> rfl
theorem zbu {K : Act -> World -> Prop} (l : Nat) : Exit.then K Q (.goto l) a w = Q (.goto l) a w := rfl
theorem zcJ (b l : Nat) : Exit.inBlock b Q (.goto l) a w = Q (.goto l) a w := rfl
theorem zpR {J' : Act -> World -> Prop} (hJ : ∀ a w, J a w -> J' a w) : ∀ (n : Nat) (e : Exit) (a : Act) (w : World), Kj P c L J Q n e a w -> Kj P c L J' Q n e a w := by
 intro n
 induction n with
 | zero =>
  intro e a w h
  cases e with
  | goto l => exact ⟨h.1, hJ _ _ h.2⟩
  | normal => exact h
  | exit i => exact h
  | ret => exact h
  | panic ch => exact h
  | outgrown => exact h
 | succ n ih =>
  intro e a w h
  cases e with
  | goto l =>
   rcases h with ⟨h1, h2⟩ | ⟨r, h1, h2⟩
   ·exact .inl ⟨h1, hJ _ _ h2⟩
   ·exact .inr ⟨r, h1, wp_mono h2 (ih)⟩
  | normal => exact h
  | exit i => exact h
  | ret => exact h
  | panic ch => exact h
  | outgrown => exact h
theorem zkx {n : Nat} (h : J a w) : Kj P c L J Q n (.goto L) a w := by
 cases n with
 | zero => exact ⟨rfl, h⟩
 | succ n => exact .inl ⟨rfl, h⟩
theorem zgG {n l : Nat} {rest : Code} (hf : findLabel c l = some rest) (h : rest.wp P (Kj P c L J Q n) a w) : Kj P c L J Q (n + 1) (.goto l) a w := .inr ⟨rest, hf, h⟩
theorem zoj {rest : Code} (hr : findLabel c L = some rest) (b : Frame) (k : List Item) (cs : List Frame) : ∀ (n : Nat) (d : Code) (a : Act) (w : World), d.wp P (Kj P c L J Q n) a w →
  (∃ e a' w', Q e a' w' /\ Arrives P (lone (b.at a (.code d :: .inScope c :: k)) cs w) b k cs e a' w') ∨ ∃ a' w', J a' w' /\ Steps P (lone (b.at a (.code d :: .inScope c :: k)) cs w) (lone (b.at a' (.code rest :: .inScope c :: k)) cs w') := by
 intro n
 induction n with
 | zero =>
  intro d a w h
  obtain ⟨e, a₁, w₁, hq, harr⟩ := h b (.inScope c :: k) cs
  cases e with
  | normal => exact .inl ⟨.normal, a₁, w₁, hq, Steps.trans harr (.one step_inScope)⟩
  | exit id => exact .inl ⟨.exit id, a₁, w₁, hq, fun k' hk => harr k' (by simp [exitTo, hk])⟩
  | goto l =>
   obtain ⟨rfl, hJ⟩ := hq
   exact .inr ⟨a₁, w₁, hJ, harr _ (by simp [gotoIn, hr])⟩
  | ret => exact .inl ⟨_, a₁, w₁, hq, harr⟩
  | panic ch => exact .inl ⟨_, a₁, w₁, hq, harr⟩
  | outgrown => exact .inl ⟨_, a₁, w₁, hq, harr⟩
 | succ n ih =>
  intro d a w h
  obtain ⟨e, a₁, w₁, hq, harr⟩ := h b (.inScope c :: k) cs
  cases e with
  | normal => exact .inl ⟨.normal, a₁, w₁, hq, Steps.trans harr (.one step_inScope)⟩
  | exit id => exact .inl ⟨.exit id, a₁, w₁, hq, fun k' hk => harr k' (by simp [exitTo, hk])⟩
  | goto l =>
   rcases hq with ⟨rfl, hJ⟩ | ⟨r2, hf, hw⟩
   ·exact .inr ⟨a₁, w₁, hJ, harr _ (by simp [gotoIn, hr])⟩
   ·have hs := harr _ (show gotoIn l (.inScope c :: k) = some (.code r2 :: .inScope c :: k) by simp [gotoIn, hf])
    rcases ih r2 a₁ w₁ hw with ⟨e2, a2, w2, hq2, harr2⟩ | ⟨a2, w2, hJ, hs2⟩
    ·exact .inl ⟨e2, a2, w2, hq2, .of_steps hs harr2⟩
    ·exact .inr ⟨a2, w2, hJ, hs.trans hs2⟩
  | ret => exact .inl ⟨_, a₁, w₁, hq, harr⟩
  | panic ch => exact .inl ⟨_, a₁, w₁, hq, harr⟩
  | outgrown => exact .inl ⟨_, a₁, w₁, hq, harr⟩
theorem zcY {rest : Code} (n L : Nat) (J : Act -> World -> Prop) (μ : Act -> World -> Nat) (hr : findLabel c L = some rest) (first : c.wp P (Kj P c L J Q n) a w)
  (pass : ∀ a w, J a w -> rest.wp P (Kj P c L (fun a' w' => J a' w' /\ μ a' w' < μ a w) Q n) a w) : (Code.scope c).wp P Q a w := by
 intro b k cs
 have key : ∀ m a w, μ a w = m -> J a w -> ∃ e a' w', Q e a' w' /\ Arrives P (lone (b.at a (.code rest :: .inScope c :: k)) cs w) b k cs e a' w' := by
  intro m
  induction m using Nat.strongRecOn with
  | _ m ih =>
   intro a w hm hJ
   rcases zoj hr b k cs n rest a w (pass a w hJ) with h | ⟨a2, w2, ⟨hJ2, hlt⟩, hs⟩
   ·exact h
   ·obtain ⟨e, a3, w3, hq, harr⟩ := ih _ (by omega) a2 w2 rfl hJ2
    exact ⟨e, a3, w3, hq, .of_steps hs harr⟩
 rcases zoj hr b k cs n c a w first with ⟨e, a2, w2, hq, harr⟩ | ⟨a2, w2, hJ, hs⟩
 ·exact ⟨e, a2, w2, hq, .of_steps (.one step_scope) harr⟩
 ·obtain ⟨e, a3, w3, hq, harr⟩ := key _ a2 w2 rfl hJ
  exact ⟨e, a3, w3, hq, .of_steps (.head step_scope hs) harr⟩
theorem zky {X : Code} {R : Exit -> Act -> World -> Prop} (h : X.wp P R a w) : (Code.skip.seq X).wp P R a w := by
 apply wp_seq
 apply wp_skip
 exact h
theorem ze2 {X : Code} (n L : Nat) (J : Act -> World -> Prop) (μ : Act -> World -> Nat) (hr : findLabel c L = some (Code.skip.seq X)) (first : (∀ a w, J a w -> X.wp P (Kj P c L J Q n) a w) -> c.wp P (Kj P c L J Q n) a w)
  (pass : ∀ a w, J a w -> X.wp P (Kj P c L (fun a' w' => J a' w' /\ μ a' w' < μ a w) Q n) a w) : (Code.scope c).wp P Q a w :=
 zcY n L J μ hr (first fun a w h => wp_mono (pass a w h) (zpR (fun _ _ h => h.1) n)) (fun a w h => zky (pass a w h))
theorem zaI {rest : Code} (n L : Nat) (hr : findLabel c L = some rest) (first : c.wp P (Kj P c L (fun _ _ => False) Q n) a w) : (Code.scope c).wp P Q a w :=
 zcY n L (fun _ _ => False) (fun _ _ => 0) hr first (fun _ _ h => h.elim)
end
end Go.Proofs.YtnpifgcgjgddoaaGreatDoor
