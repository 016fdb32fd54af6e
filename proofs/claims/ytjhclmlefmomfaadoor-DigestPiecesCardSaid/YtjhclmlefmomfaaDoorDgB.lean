/- Layer 2: what the digest is, as a function of bytes; no function of the program is named. -/
import Derived.Test.YtjhclmlefmomfaaDoorDgA
namespace Go.Proofs.YtjhclmlefmomfaaDoor
open Go.ChangeShapes Go.WideShapes Go.ChangeAt Go.RowKit Go.IntWalk
set_option linter.unusedVariables false

/-- Eight words. -/
structure S8 where
  (a b c d e f g h : Int)
def S8.list (s : S8) : List Int := [s.a, s.b, s.c, s.d, s.e, s.f, s.g, s.h]
def S8.InU (s : S8) : Prop := Go.Proofs.YtjhclmlefmomfaaDoor.InU s.a ∧ Go.Proofs.YtjhclmlefmomfaaDoor.InU s.b ∧ Go.Proofs.YtjhclmlefmomfaaDoor.InU s.c ∧ Go.Proofs.YtjhclmlefmomfaaDoor.InU s.d ∧ Go.Proofs.YtjhclmlefmomfaaDoor.InU s.e ∧ Go.Proofs.YtjhclmlefmomfaaDoor.InU s.f ∧ Go.Proofs.YtjhclmlefmomfaaDoor.InU s.g ∧ Go.Proofs.YtjhclmlefmomfaaDoor.InU s.h
def add (x y : Int) : Int := IntKind.u32.wrap (x + y)
theorem inU_add (x y : Int) : Go.Proofs.YtjhclmlefmomfaaDoor.InU (add x y) := inU_wrap _
def choose (e f g : Int) : Int := bits .xor .u32 (bits .and .u32 e f) (bits .and .u32 (bits .xor .u32 4294967295 e) g)
def most (a b c : Int) : Int := bits .xor .u32 (bits .xor .u32 (bits .and .u32 a b) (bits .and .u32 a c)) (bits .and .u32 b c)
def pOf (k w : Int) (s : S8) : Int := add (add (add (add s.h (three s.e 6 11 25)) (choose s.e s.f s.g)) k) w
def qOf (s : S8) : Int := add (three s.a 2 13 22) (most s.a s.b s.c)
/-- A round. -/
def rnd (k w : Int) (s : S8) : S8 := ⟨add (pOf k w s) (qOf s), s.a, s.b, s.c, add s.d (pOf k w s), s.e, s.f, s.g⟩
theorem rnd_inU (k w : Int) (s : S8) (h : s.InU) : (rnd k w s).InU := ⟨inU_add _ _, h.1, h.2.1, h.2.2.1, inU_add _ _, h.2.2.2.2.1, h.2.2.2.2.2.1, h.2.2.2.2.2.2.1⟩
def rnds (ks ws : List Int) (s : S8) : Nat → S8
  | 0 => s
  | n + 1 => rnd (ks.getD n 0) (ws.getD n 0) (rnds ks ws s n)
theorem rnds_inU (ks ws : List Int) (s : S8) (h : s.InU) : ∀ n, (rnds ks ws s n).InU
  | 0 => h
  | n + 1 => rnd_inU _ _ _ (rnds_inU ks ws s h n)
def sOf (x : Int) : Int := bits .xor .u32 (bits .xor .u32 (rotr x 7) (rotr x 18)) (x / 8)
def tOf (x : Int) : Int := bits .xor .u32 (bits .xor .u32 (rotr x 17) (rotr x 19)) (x / 1024)
/-- The highest byte first. -/
def beN (l : List UInt8) : Nat := l.foldl (fun n c => n * 256 + c.toNat) 0
theorem beN_snoc (l : List UInt8) (c : UInt8) : beN (l ++ [c]) = beN l * 256 + c.toNat := by simp [beN]
theorem beN_lt (l : List UInt8) : beN l < 256 ^ l.length := by
  suffices h : ∀ (l : List UInt8) (n m : Nat), n < 256 ^ m → l.foldl (fun n c => n * 256 + c.toNat) n < 256 ^ (m + l.length) by
    have := h l 0 0 (by decide); simpa [beN] using this
  intro l
  induction l with
  | nil => intro n m h; simpa using h
  | cons c l ih =>
    intro n m h
    have := ih (n * 256 + c.toNat) (m + 1) (by have := c.toNat_lt; rw [Nat.pow_succ]; omega)
    simp only [List.foldl_cons, List.length_cons]
    rw [show m + (l.length + 1) = m + 1 + l.length by omega]; exact this
/-- The word j of a block, of which k bytes are there. -/
def seg (bs : List UInt8) (k j : Nat) : List UInt8 := (bs.drop (4 * j)).take (min 4 (k - 4 * j))
def pre (bs : List UInt8) (k : Nat) : List Int := (List.range 64).map fun j => ((beN (seg bs k j) : Nat) : Int)
theorem pre_len (bs : List UInt8) (k : Nat) : (pre bs k).length = 64 := by simp [pre]
theorem pre_at (bs : List UInt8) (k j : Nat) (h : j < 64) : (pre bs k)[j]? = some ((beN (seg bs k j) : Nat) : Int) := by simp [pre, h]
theorem seg_lt (bs : List UInt8) (k j : Nat) (hj : k / 4 = j) : beN (seg bs k j) < 2 ^ 24 := by
  refine Nat.lt_of_lt_of_le (beN_lt _) ?_
  have : (seg bs k j).length ≤ 3 := by
    unfold seg; rw [List.length_take]; omega
  exact Nat.le_trans (Nat.pow_le_pow_right (by decide) this) (by decide)
theorem pre_step (bs : List UInt8) (k : Nat) (c : UInt8) (hk : bs[k]? = some c) : pre bs (k + 1) = (pre bs k).set (k / 4) (((beN (seg bs k (k / 4)) * 256 + c.toNat : Nat)) : Int) := by
  apply List.ext_getElem?
  intro j
  rw [List.getElem?_set]
  by_cases hr : j < 64
  · rw [pre_at _ _ _ hr, pre_at _ _ _ hr, pre_len]
    by_cases hj : k / 4 = j
    · subst hj
      rw [if_pos rfl, if_pos hr, ← beN_snoc]
      congr 3
      unfold seg
      rw [show min 4 (k + 1 - 4 * (k / 4)) = k % 4 + 1 by omega, show min 4 (k - 4 * (k / 4)) = k % 4 by omega, List.take_add_one, List.getElem?_drop, show 4 * (k / 4) + k % 4 = k by omega, hk]
      rfl
    · rw [if_neg hj]
      unfold seg
      rw [show min 4 (k + 1 - 4 * j) = min 4 (k - 4 * j) by omega]
  · rw [List.getElem?_eq_none (by rw [pre_len]; omega), List.getElem?_eq_none (by rw [pre_len]; omega), pre_len]
    split
    · rw [if_neg (by omega)]
    · rfl
/-- A block's words. -/
def w16 (bs : List UInt8) : List Int := (List.range 16).map fun j => ((beN ((bs.drop (4 * j)).take 4) : Nat) : Int)
theorem w16_len (bs : List UInt8) : (w16 bs).length = 16 := by simp [w16]
theorem pre_zero (bs : List UInt8) : pre bs 0 = List.replicate 64 0 := by
  unfold pre seg
  simp only [Nat.zero_sub, Nat.min_zero, List.take_zero]
  rfl
theorem pre_full (bs : List UInt8) (h : bs.length = 64) : pre bs 64 = w16 bs ++ List.replicate 48 0 := by
  apply List.ext_getElem?
  intro j
  by_cases hr : j < 64
  · rw [pre_at _ _ _ hr]
    by_cases hj : j < 16
    · rw [List.getElem?_append_left (by rw [w16_len]; exact hj)]
      unfold w16 seg
      rw [show min 4 (64 - 4 * j) = 4 by omega]
      simp [hj]
    · rw [List.getElem?_append_right (by rw [w16_len]; omega), w16_len, List.getElem?_replicate, if_pos (by omega)]
      unfold seg
      rw [List.drop_of_length_le (by omega), List.take_nil]; rfl
  · rw [List.getElem?_eq_none (by rw [pre_len]; omega), List.getElem?_eq_none (by simp [w16_len]; omega)]
def wnext (ws : List Int) : Int := add (add (add (ws.getD (ws.length - 16) 0) (sOf (ws.getD (ws.length - 15) 0))) (ws.getD (ws.length - 7) 0)) (tOf (ws.getD (ws.length - 2) 0))
def wN (bs : List UInt8) : Nat → List Int
  | 0 => w16 bs
  | n + 1 => wN bs n ++ [wnext (wN bs n)]
theorem wN_len (bs : List UInt8) : ∀ n, (wN bs n).length = 16 + n
  | 0 => w16_len bs
  | n + 1 => by simp [wN, wN_len bs n]; omega
theorem wN_inU (bs : List UInt8) : ∀ n, ∀ x ∈ wN bs n, InU x
  | 0 => by
    intro x hx
    simp only [wN, w16, List.mem_map] at hx
    obtain ⟨j, _, rfl⟩ := hx
    have h1 := beN_lt ((bs.drop (4 * j)).take 4)
    have h2 : ((bs.drop (4 * j)).take 4).length ≤ 4 := by rw [List.length_take]; omega
    have h3 : 256 ^ ((bs.drop (4 * j)).take 4).length ≤ 256 ^ 4 := Nat.pow_le_pow_right (by decide) h2
    have h4 : (256 : Nat) ^ 4 = 4294967296 := by decide
    unfold InU; omega
  | n + 1 => by
    intro x hx
    simp only [wN, List.mem_append, List.mem_singleton] at hx
    rcases hx with hx | rfl
    · exact wN_inU bs n x hx
    · exact inU_add _ _
/-- As an array holds them. -/
def arrW (bs : List UInt8) (n : Nat) : List Int := wN bs n ++ List.replicate (48 - n) 0
theorem arrW_len (bs : List UInt8) (n : Nat) (h : n ≤ 48) : (arrW bs n).length = 64 := by simp [arrW, wN_len]; omega
theorem arrW_at (bs : List UInt8) (n j : Nat) (h : j < 16 + n) : (arrW bs n)[j]? = some ((wN bs n).getD j 0) := by
  unfold arrW
  rw [List.getElem?_append_left (by rw [wN_len]; exact h), List.getD_eq_getElem?_getD, List.getElem?_eq_getElem (by rw [wN_len]; exact h)]; rfl
theorem arrW_step (bs : List UInt8) (n : Nat) (h : n < 48) : (arrW bs n).set (16 + n) (wnext (wN bs n)) = arrW bs (n + 1) := by
  unfold arrW
  rw [List.set_append, wN_len, if_neg (by omega), show 16 + n - (16 + n) = 0 by omega, show 48 - n = (48 - (n + 1)) + 1 by omega, List.replicate_succ]
  simp [wN]
theorem wN_getD_inU (bs : List UInt8) (n j : Nat) : InU ((wN bs n).getD j 0) := by
  rw [List.getD_eq_getElem?_getD]
  by_cases h : j < (wN bs n).length
  · rw [List.getElem?_eq_getElem h]; exact wN_inU bs n _ (List.getElem_mem h)
  · rw [List.getElem?_eq_none (by omega)]; exact ⟨by decide, by decide⟩
def KS : List Int := [1116352408, 1899447441, 3049323471, 3921009573, 961987163, 1508970993, 2453635748, 2870763221, 3624381080, 310598401, 607225278, 1426881987, 1925078388, 2162078206, 2614888103, 3248222580, 3835390401, 4022224774, 264347078, 604807628, 770255983, 1249150122, 1555081692, 1996064986, 2554220882, 2821834349, 2952996808, 3210313671, 3336571891, 3584528711, 113926993, 338241895, 666307205, 773529912, 1294757372, 1396182291, 1695183700, 1986661051, 2177026350, 2456956037, 2730485921, 2820302411, 3259730800, 3345764771, 3516065817, 3600352804, 4094571909, 275423344, 430227734, 506948616, 659060556, 883997877, 958139571, 1322822218, 1537002063, 1747873779, 1955562222, 2024104815, 2227730452, 2361852424, 2428436474, 2756734187, 3204031479, 3329325298]
def S8.plus (s t : S8) : S8 := ⟨add s.a t.a, add s.b t.b, add s.c t.c, add s.d t.d, add s.e t.e, add s.f t.f, add s.g t.g, add s.h t.h⟩
theorem S8.plus_inU (s t : S8) : (s.plus t).InU := ⟨inU_add _ _, inU_add _ _, inU_add _ _, inU_add _ _, inU_add _ _, inU_add _ _, inU_add _ _, inU_add _ _⟩
/-- The state behind a block. -/
def comp (s : S8) (bs : List UInt8) : S8 := s.plus (rnds KS (wN bs 48) s 64)
def initS : S8 := ⟨1779033703, 3144134277, 1013904242, 2773480762, 1359893119, 2600822924, 528734635, 1541459225⟩
theorem initS_inU : initS.InU := by unfold S8.InU InU initS; decide
/-- Behind k blocks. -/
def stN (bs : List UInt8) : Nat → S8
  | 0 => initS
  | k + 1 => comp (stN bs k) ((bs.drop (64 * k)).take 64)
theorem stN_inU (bs : List UInt8) : ∀ k, (stN bs k).InU
  | 0 => initS_inU
  | _ + 1 => S8.plus_inU _ _
theorem stN_app (bs cs : List UInt8) : ∀ k, 64 * k ≤ bs.length → stN (bs ++ cs) k = stN bs k
  | 0, _ => rfl
  | k + 1, h => by
    simp only [stN]
    rw [stN_app bs cs k (by omega), List.drop_append_of_le_length (by omega), List.take_append_of_le_length (by rw [List.length_drop]; omega)]
def bytesW (x : Int) : List UInt8 := (List.range 4).map fun j => UInt8.ofNat ((x / 2 ^ (24 - 8 * j)).toNat % 256)
/-- How many bits so many bytes have, the highest byte first. -/
def tailF (n : Nat) : List UInt8 := (List.range 8).map fun j => UInt8.ofNat (8 * n / 256 ^ (7 - j) % 256)
theorem tailF_len (n : Nat) : (tailF n).length = 8 := by simp [tailF]
/-- How many bytes stand between. -/
def gap (n : Nat) : Nat := 64 - (n + 8) % 64
def padded (bs : List UInt8) : List UInt8 := bs ++ (128 :: List.replicate (gap bs.length - 1) 0) ++ tailF bs.length
theorem padded_len (bs : List UInt8) : (padded bs).length % 64 = 0 := by
  simp [padded, tailF_len, gap]; omega
def digest (bs : List UInt8) : List UInt8 := (stN (padded bs) ((padded bs).length / 64)).list.flatMap bytesW
theorem digest_len (bs : List UInt8) : (digest bs).length = 32 := by simp [digest, S8.list, bytesW]
end Go.Proofs.YtjhclmlefmomfaaDoor
